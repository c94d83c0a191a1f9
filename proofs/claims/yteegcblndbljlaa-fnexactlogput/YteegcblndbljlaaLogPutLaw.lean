/-
  The walk of the law FnExactLogPut.
-/
import Derived.Test.YteegcblndbljlaaLogPutS
import Derived.Test.YteegcblndbljlaaLogMark
import Derived.Test.YteegcblndbljlaaLogOkLaw
import Derived.Deep.RegionHeld3
namespace Go.Proofs.Yteegcblndbljlaa
open Go.RowKit

set_option maxRecDepth 100000 in
set_option maxHeartbeats 8000000 in
theorem fnExactLogPut_any (b bt : Int) (v : Value) (l : EL) (pr : Int) (pt : Int) (v3 : Value) (l3 : EL) (w : World) (h : Row w v l.length (flatE l)) (h3 : Row w v3 l3.length (flatE l3)) (hb : I64 b) (hi : I64 pr) :
    Calls Try.prog 10 #[lgV b bt v, .int .i64 pr, .int .i64 pt, v3] w fun e w' => e = .returned (.bool true) ∧ Below w.heap.size w w' := by
  have TT : Hid (Row w v l.length (flatE l)) := h
  have SZ1 : Hid (∀ u, Below w.heap.size w u → Calls Try.prog 34 #[lgV b bt v, .int .i64 1048576] u fun e w' => e = .returned (.int .i64 (if (l.length : Int) ≤ 1048576 then 1048576 - l.length else -1)) ∧ Below u.heap.size u w') := fun u hu => szLog_any b bt v l 1048576 u (TT.out.below hu) (by omega) (by omega)
  have N1 : MBox 51 (w.alloc (.cells #[.int .i64 b, .int .i64 bt, v] 51)) w.heap.size #[.int .i64 b, .int .i64 bt, v] := MBox.start _ w _
  have B2 : Below w.heap.size w (w.alloc (.cells #[.int .i64 b, .int .i64 bt, v] 51)) := bel_nw _ _
  have c1 := N1.cells
  have HB : Hid _ := And.intro B2 N1
  clear B2 N1 h
  by_cases hb1 : (l.length : Int) ≤ 1048576
  · rw [if_pos hb1] at SZ1
    obtain ⟨a3, bb3, off3, cap3, hv3, hcap3, hmax3, -⟩ := h3.ents
    have hn3 : l3.length ≤ maxLen := by omega
    have T3 : Hid (Row w v3 l3.length (flatE l3)) := h3
    subst hv3
    have SZ3 : Hid (∀ u, Calls Try.prog 41 #[.slice a3 l3.length cap3, .int .i64 (1048576 - l.length)] u fun e w' => e = .returned (.int .i64 (if (l3.length : Int) ≤ 1048576 - l.length then 1048576 - l.length - l3.length else -1)) ∧ w' = u) := fun u => szEntryS_any a3 l3.length cap3 _ hn3 (by omega) (by omega) u
    clear h3 hcap3 hmax3 hn3
    have hs1 : ¬ (1048576 - (l.length : Int) < 0) := by omega
    by_cases hb3 : (l3.length : Int) ≤ 1048576 - l.length
    · rw [if_pos hb3] at SZ3
      have TO1 : Hid (∀ u, Below w.heap.size w u → Calls Try.prog 35 #[lgV b bt v] u fun e w' => ∃ v', e = .returned (lgV b bt v') ∧ w'.ownsRow u.heap.size 39 6 v' l.length (flatE l) ∧ Below u.heap.size u w') := fun u hu => toLog_any b bt v l u (TT.out.below hu) (by omega)
      have TO3 : Hid (∀ u, Below w.heap.size w u → Calls Try.prog 42 #[.slice a3 l3.length cap3] u fun e w' => ∃ v', e = .returned v' ∧ w'.ownsRow u.heap.size 39 6 v' l3.length (flatE l3) ∧ Below u.heap.size u w') := fun u hu => toEntryS_any _ l3 u (T3.out.below hu) (by omega)
      have CS : Hid (∀ (u : World) (V : Value) (V3 : Value), Row u V l.length (flatE l) → Row u V3 l3.length (flatE l3) → Calls Try.prog 16 #[lgV b bt V, .int .i64 pr, .int .i64 pt, V3] u fun e w' => ∃ v', e = .returned (.tuple #[lgV (putB b bt l) (putT b bt l) v', .bool (putK b bt l pr pt l3)]) ∧ OwnE w' u.heap.size 39 6 v' (putL b bt l pr pt l3).length (flatE (putL b bt l pr pt l3)) ∧ Below u.heap.size u w') := fun u V V3 hV hV3 => specLogPut_any b bt V l pr pt V3 l3 u hV hV3 hb hi (by omega)
      have CI : Hid (∀ (u : World) (V : Value) (V3 : Value), Row u V l.length (flatE l) → Row u V3 l3.length (flatE l3) → Calls Try.prog 15 #[lgV b bt V, .int .i64 pr, .int .i64 pt, V3] u fun e w' => ∃ v', e = .returned (.tuple #[lgV (putB b bt l) (putT b bt l) v', .bool (putK b bt l pr pt l3)]) ∧ w'.ownsRow u.heap.size 39 6 v' (putL b bt l pr pt l3).length (flatE (putL b bt l pr pt l3)) ∧ Below u.heap.size u w') := fun u V V3 hV hV3 => implLogPut_any b bt V l pr pt V3 l3 u hV hV3 hb hi (by omega)
      have hRn : (putL b bt l pr pt l3).length ≤ 1048576 := by have := putL_len b bt l pr pt l3; omega
      have EQL : Hid (∀ (u : World) (V V2 : Value), Row u V l.length (flatE l) → Row u V2 l.length (flatE l) → Calls Try.prog 36 #[lgV b bt V, lgV b bt V2] u fun e w' => e = .returned (.bool true) ∧ Below u.heap.size u w') := fun u V V2 h1 h2 => (eqLog_any b bt b bt V V2 l l u h1 h2).mono (fun e w' ⟨he, hb⟩ => ⟨by rw [he]; simp, hb⟩)
      have EQ3 : Hid (∀ (u : World) (V V2 : Value), Row u V l3.length (flatE l3) → Row u V2 l3.length (flatE l3) → Calls Try.prog 37 #[V, V2] u fun e w' => e = .returned (.bool true) ∧ Below u.heap.size u w') := fun u V V2 h1 h2 => (eqEntryS_any V V2 l3 l3 u h1 h2).mono (fun e w' ⟨he, hb⟩ => ⟨by rw [he]; simp, hb⟩)
      generalize putL b bt l pr pt l3 = R at *
      generalize putB b bt l = rb at *
      generalize putT b bt l = rt at *
      generalize putK b bt l pr pt l3 = rk at *
      have EQR : Hid (∀ (u : World) (V V2 : Value), Row u V R.length (flatE R) → Row u V2 R.length (flatE R) → Calls Try.prog 36 #[lgV rb rt V, lgV rb rt V2] u fun e w' => e = .returned (.bool true) ∧ Below u.heap.size u w') := fun u V V2 h1 h2 => (eqLog_any rb rt rb rt V V2 R R u h1 h2).mono (fun e w' ⟨he, hb⟩ => ⟨by rw [he]; simp, hb⟩)
      have MK : Hid (∀ (u : World) (V : Value), u.ownsRow 0 39 6 V R.length (flatE R) → Calls Try.prog 38 #[lgV rb rt V, .int .i64 1] u fun e w' => e = .returned (.int .i64 (1 + 6 * R.length)) ∧ w'.ownsRow 0 39 6 V R.length (flatE (marksE 1 R.length)) ∧ Chg (fun g => V.ownBlock = some g) u w') := fun u V h => markLog_any rb rt V R 1 u h (by omega) (by omega) (by omega)
      have HE : Hid (∀ (u : World) (V : Value), Row u V R.length (flatE (marksE 1 R.length)) → Calls Try.prog 43 #[lgV rb rt V, .int .i64 1] u fun e w' => e = .returned (.int .i64 (1 + 6 * R.length)) ∧ Below u.heap.size u w') := fun u V h => heldLog_any rb rt V R.length 1 u h (by omega) (by omega) (by omega)
      have MX : Hid (∀ (u : World) (V : Value), u.ownsRow 0 39 6 V l.length (flatE l) → Calls Try.prog 38 #[lgV b bt V, .int .i64 1] u fun e w' => e = .returned (.int .i64 (1 + 6 * l.length)) ∧ w'.ownsRow 0 39 6 V l.length (flatE (marksE 1 l.length)) ∧ Chg (fun g => V.ownBlock = some g) u w') := fun u V h => markLog_any b bt V l 1 u h (by omega) (by omega) (by omega)
      have M3 : Hid (∀ (u : World) (V : Value), u.ownsRow 0 39 6 V l3.length (flatE l3) → Calls Try.prog 39 #[V, .int .i64 (1 + 6 * l.length)] u fun e w' => e = .returned (.int .i64 (1 + 6 * l.length + 6 * l3.length)) ∧ w'.ownsRow 0 39 6 V l3.length (flatE (marksE (1 + 6 * l.length) l3.length)) ∧ Chg (fun g => V.ownBlock = some g) u w') := fun u V h => markEntryS_any V l3 (1 + 6 * l.length) u h (by omega) (by omega) (by omega)
      have hkn : ¬ (1 + 6 * (l.length : Int) + 6 * (l3.length : Int) < 0) := by omega
      have hrk : (rk != rk) = false := by cases rk <;> rfl
      have hmn : ¬ (1 + 6 * (R.length : Int) < 0) := by omega
      have hs3 : ¬ (1048576 - (l.length : Int) - (l3.length : Int) < 0) := by omega
      generalize hll : l.length = ll at *
      generalize hrr : R.length = rr at *
      have HLL : Hid _ := And.intro hll hrr
      clear hll hrr
      generalize hl3 : l3.length = n3 at *
      have HL3 : Hid _ := hl3
      clear hl3
      generalize hk1 : (1 + 6 * (ll : Int)) = k1 at *
      clear hk1
      generalize hkk : (k1 + 6 * (n3 : Int)) = kk at *
      clear hkk
      generalize hmm : (1 + 6 * (rr : Int)) = mm at *
      clear hmm
      go_enter Try.func10, Try.ntmps10
      go_wp2_with fail
      generalize (w.alloc (.cells #[.int .i64 b, .int .i64 bt, v] 51)) = W at *
      have SB : Hid (Below w.heap.size w W) := HB.out.1
      have NA : Hid (MBox 51 W w.heap.size #[.int .i64 b, .int .i64 bt, v]) := HB.out.2
      clear HB c1
      refine (SZ1.out _ SB.out).mono ?_
      rintro e w1 ⟨rfl, b1⟩
      replace SB : Hid (Below w.heap.size w w1) := Below.and SB.out b1
      replace NA : Hid (MBox 51 w1 w.heap.size #[.int .i64 b, .int .i64 bt, v]) := NA.out.step b1
      clear b1
      have cNA := NA.out.cells
      go_wp2_with fail
      refine (SZ3.out _).mono ?_
      rintro e w1b ⟨rfl, hw1⟩
      subst hw1
      go_wp2_with fail
      refine (TO1.out _ SB.out).mono ?_
      rintro e w2 ⟨y1, rfl, t1, b2⟩
      clear cNA
      replace SB : Hid (Below w.heap.size w w2) := Below.and SB.out b2
      replace NA : Hid (MBox 51 w2 w.heap.size #[.int .i64 b, .int .i64 bt, v]) := NA.out.step b2
      have R1 : Hid (Row w2 y1 ll (flatE l)) := Row.of_owns t1
      clear b2 t1
      obtain ⟨ay1, by1, oy1, qy1, hy1, -⟩ := R1.out
      subst hy1
      have cNA := NA.out.cells
      go_wp2_with fail
      refine (TO3.out _ SB.out).mono ?_
      rintro e w2b ⟨y3, rfl, t3, b3⟩
      clear cNA
      replace SB : Hid (Below w.heap.size w w2b) := Below.and SB.out b3
      replace NA : Hid (MBox 51 w2b w.heap.size #[.int .i64 b, .int .i64 bt, v]) := NA.out.step b3
      replace R1 : Hid (Row w2b (.slice ay1 ll qy1) ll (flatE l)) := Row.below R1.out b3
      have R3 : Hid (Row w2b y3 n3 (flatE l3)) := Row.of_owns t3
      clear b3 t3
      have cNA := NA.out.cells
      go_wp2_with fail
      refine (CS.out _ _ _ R1.out R3.out).mono ?_
      rintro e w3 ⟨z0, rfl, o3, b4⟩
      clear cNA
      clear R1
      clear R3
      obtain ⟨a0, q0, hz0⟩ := OwnE.slice o3
      subst hz0
      replace SB : Hid (Below w.heap.size w w3) := Below.and SB.out b4
      replace NA : Hid (MBox 51 w3 w.heap.size #[.int .i64 b, .int .i64 bt, v]) := NA.out.step b4
      have RW : Hid (OwnE w3 w2b.heap.size 39 6 (.slice a0 rr q0) rr (flatE R)) := o3
      clear o3 b4
      have bn := bel_nw w3 (.cells #[.int .i64 rb, .int .i64 rt, .slice a0 rr q0] 26)
      replace SB : Hid (Below w.heap.size w (w3.alloc (.cells #[.int .i64 rb, .int .i64 rt, .slice a0 rr q0] 26))) := Below.and SB.out bn
      replace NA : Hid (MBox 51 (w3.alloc (.cells #[.int .i64 rb, .int .i64 rt, .slice a0 rr q0] 26)) w.heap.size #[.int .i64 b, .int .i64 bt, v]) := NA.out.step bn
      replace RW : Hid (OwnE (w3.alloc (.cells #[.int .i64 rb, .int .i64 rt, .slice a0 rr q0] 26)) w2b.heap.size 39 6 (.slice a0 rr q0) rr (flatE R)) := OwnE.below RW.out bn
      have NW : Hid (MBox 26 (w3.alloc (.cells #[.int .i64 rb, .int .i64 rt, .slice a0 rr q0] 26)) w3.heap.size #[.int .i64 rb, .int .i64 rt, .slice a0 rr q0]) := MBox.start _ w3 _
      clear bn
      have cNA := NA.out.cells
      have cNW := NW.out.cells
      go_wp2_with fail
      generalize hxw : w3.heap.size = xw at *
      clear hxw
      generalize w3.alloc (.cells #[.int .i64 rb, .int .i64 rt, .slice a0 rr q0] 26) = W3 at *
      have LW : Hid (∀ g, wrB (.slice a0 rr q0) g → g < W3.heap.size) := fun g hg => (OwnE.lt RW.out g hg).2
      have ZW : Hid (w.heap.size ≤ W3.heap.size) := SB.out.size
      refine (TO1.out _ SB.out).mono ?_
      rintro e w4 ⟨y2, rfl, t2, b5⟩
      clear cNA cNW
      obtain ⟨a2, q2, hy2⟩ := owns_val t2
      subst hy2
      replace SB : Hid (Below w.heap.size w w4) := Below.and SB.out b5
      replace NA : Hid (MBox 51 w4 w.heap.size #[.int .i64 b, .int .i64 bt, v]) := NA.out.step b5
      replace RW : Hid (OwnE w4 w2b.heap.size 39 6 (.slice a0 rr q0) rr (flatE R)) := OwnE.below RW.out b5
      replace NW : Hid (MBox 26 w4 xw #[.int .i64 rb, .int .i64 rt, .slice a0 rr q0]) := NW.out.step b5
      have RX : Hid (w4.ownsRow W3.heap.size 39 6 (.slice a2 ll q2) ll (flatE l)) := t2
      have ZX : Hid (W3.heap.size ≤ w4.heap.size) := b5.size
      clear t2 b5
      have bn := bel_nw w4 (.cells #[.int .i64 b, .int .i64 bt, .slice a2 ll q2] 26)
      replace SB : Hid (Below w.heap.size w (w4.alloc (.cells #[.int .i64 b, .int .i64 bt, .slice a2 ll q2] 26))) := Below.and SB.out bn
      replace NA : Hid (MBox 51 (w4.alloc (.cells #[.int .i64 b, .int .i64 bt, .slice a2 ll q2] 26)) w.heap.size #[.int .i64 b, .int .i64 bt, v]) := NA.out.step bn
      replace RW : Hid (OwnE (w4.alloc (.cells #[.int .i64 b, .int .i64 bt, .slice a2 ll q2] 26)) w2b.heap.size 39 6 (.slice a0 rr q0) rr (flatE R)) := OwnE.below RW.out bn
      replace NW : Hid (MBox 26 (w4.alloc (.cells #[.int .i64 b, .int .i64 bt, .slice a2 ll q2] 26)) xw #[.int .i64 rb, .int .i64 rt, .slice a0 rr q0]) := NW.out.step bn
      replace RX : Hid ((w4.alloc (.cells #[.int .i64 b, .int .i64 bt, .slice a2 ll q2] 26)).ownsRow W3.heap.size 39 6 (.slice a2 ll q2) ll (flatE l)) := owns_below RX.out bn
      replace ZX : Hid (W3.heap.size ≤ (w4.alloc (.cells #[.int .i64 b, .int .i64 bt, .slice a2 ll q2] 26)).heap.size) := Nat.le_trans ZX.out bn.size
      have NX : Hid (MBox 26 (w4.alloc (.cells #[.int .i64 b, .int .i64 bt, .slice a2 ll q2] 26)) w4.heap.size #[.int .i64 b, .int .i64 bt, .slice a2 ll q2]) := MBox.start _ w4 _
      clear bn
      generalize hzx : W3.heap.size = zx at *
      clear hzx
      have cNA := NA.out.cells
      have cNW := NW.out.cells
      have cNX := NX.out.cells
      go_wp2_with fail
      generalize hxx : w4.heap.size = xx at *
      clear hxx
      generalize w4.alloc (.cells #[.int .i64 b, .int .i64 bt, .slice a2 ll q2] 26) = W4 at *
      refine (TO3.out _ SB.out).mono ?_
      rintro e w5 ⟨y4, rfl, t4, b6⟩
      clear cNA cNW cNX
      obtain ⟨a4, q4, hy4⟩ := owns_val t4
      subst hy4
      have LX0 : Hid (∀ g, (Value.slice a2 ll q2).ownBlock = some g → g < W4.heap.size) := fun g hg => (RX.out.lt g hg).2
      have ZP1 : Hid (zx ≤ W4.heap.size) := ZX.out
      replace SB : Hid (Below w.heap.size w w5) := Below.and SB.out b6
      replace NA : Hid (MBox 51 w5 w.heap.size #[.int .i64 b, .int .i64 bt, v]) := NA.out.step b6
      replace RW : Hid (OwnE w5 w2b.heap.size 39 6 (.slice a0 rr q0) rr (flatE R)) := OwnE.below RW.out b6
      replace NW : Hid (MBox 26 w5 xw #[.int .i64 rb, .int .i64 rt, .slice a0 rr q0]) := NW.out.step b6
      replace RX : Hid (w5.ownsRow zx 39 6 (.slice a2 ll q2) ll (flatE l)) := owns_below RX.out b6
      replace ZX : Hid (zx ≤ w5.heap.size) := Nat.le_trans ZX.out b6.size
      replace NX : Hid (MBox 26 w5 xx #[.int .i64 b, .int .i64 bt, .slice a2 ll q2]) := NX.out.step b6
      have R4 : Hid (w5.ownsRow W4.heap.size 39 6 (.slice a4 n3 q4) n3 (flatE l3)) := t4
      have Z3 : Hid (W4.heap.size ≤ w5.heap.size) := b6.size
      clear t4 b6
      generalize hz3 : W4.heap.size = z3 at *
      clear hz3
      have cNA := NA.out.cells
      have cNW := NW.out.cells
      have cNX := NX.out.cells
      go_wp2_with fail
      have ZO : Hid (zx ≤ w5.heap.size) := ZX.out
      clear ZX
      have ZP : Hid (zx ≤ z3 ∧ z3 ≤ w5.heap.size) := ⟨ZP1.out, Z3.out⟩
      clear Z3
      have LX : Hid (∀ g, (Value.slice a2 ll q2).ownBlock = some g → g < w5.heap.size) := fun g hg => (RX.out.lt g hg).2
      have LX3 : Hid (∀ g, (Value.slice a4 n3 q4).ownBlock = some g → g < w5.heap.size) := fun g hg => (R4.out.lt g hg).2
      refine (CI.out _ _ _ (Row.of_owns RX.out) (Row.of_owns R4.out)).mono ?_
      rintro e w6 ⟨y5, rfl, t5, b7⟩
      clear cNA cNW cNX
      obtain ⟨a5, q5, hy5⟩ := owns_val t5
      subst hy5
      replace SB : Hid (Below w.heap.size w w6) := Below.and SB.out b7
      replace NA : Hid (MBox 51 w6 w.heap.size #[.int .i64 b, .int .i64 bt, v]) := NA.out.step b7
      replace RW : Hid (OwnE w6 w2b.heap.size 39 6 (.slice a0 rr q0) rr (flatE R)) := OwnE.below RW.out b7
      replace NW : Hid (MBox 26 w6 xw #[.int .i64 rb, .int .i64 rt, .slice a0 rr q0]) := NW.out.step b7
      replace RX : Hid (w6.ownsRow zx 39 6 (.slice a2 ll q2) ll (flatE l)) := owns_below RX.out b7
      replace NX : Hid (MBox 26 w6 xx #[.int .i64 b, .int .i64 bt, .slice a2 ll q2]) := NX.out.step b7
      replace R4 : Hid (w6.ownsRow z3 39 6 (.slice a4 n3 q4) n3 (flatE l3)) := owns_below R4.out b7
      have RG : Hid (w6.ownsRow w5.heap.size 39 6 (.slice a5 rr q5) rr (flatE R)) := t5
      clear t5 b7
      have bn := bel_nw w6 (.cells #[.int .i64 rb, .int .i64 rt, .slice a5 rr q5] 26)
      replace SB : Hid (Below w.heap.size w (w6.alloc (.cells #[.int .i64 rb, .int .i64 rt, .slice a5 rr q5] 26))) := Below.and SB.out bn
      replace NA : Hid (MBox 51 (w6.alloc (.cells #[.int .i64 rb, .int .i64 rt, .slice a5 rr q5] 26)) w.heap.size #[.int .i64 b, .int .i64 bt, v]) := NA.out.step bn
      replace RW : Hid (OwnE (w6.alloc (.cells #[.int .i64 rb, .int .i64 rt, .slice a5 rr q5] 26)) w2b.heap.size 39 6 (.slice a0 rr q0) rr (flatE R)) := OwnE.below RW.out bn
      replace NW : Hid (MBox 26 (w6.alloc (.cells #[.int .i64 rb, .int .i64 rt, .slice a5 rr q5] 26)) xw #[.int .i64 rb, .int .i64 rt, .slice a0 rr q0]) := NW.out.step bn
      replace RX : Hid ((w6.alloc (.cells #[.int .i64 rb, .int .i64 rt, .slice a5 rr q5] 26)).ownsRow zx 39 6 (.slice a2 ll q2) ll (flatE l)) := owns_below RX.out bn
      replace NX : Hid (MBox 26 (w6.alloc (.cells #[.int .i64 rb, .int .i64 rt, .slice a5 rr q5] 26)) xx #[.int .i64 b, .int .i64 bt, .slice a2 ll q2]) := NX.out.step bn
      replace R4 : Hid ((w6.alloc (.cells #[.int .i64 rb, .int .i64 rt, .slice a5 rr q5] 26)).ownsRow z3 39 6 (.slice a4 n3 q4) n3 (flatE l3)) := owns_below R4.out bn
      replace RG : Hid ((w6.alloc (.cells #[.int .i64 rb, .int .i64 rt, .slice a5 rr q5] 26)).ownsRow w5.heap.size 39 6 (.slice a5 rr q5) rr (flatE R)) := owns_below RG.out bn
      have NG : Hid (MBox 26 (w6.alloc (.cells #[.int .i64 rb, .int .i64 rt, .slice a5 rr q5] 26)) w6.heap.size #[.int .i64 rb, .int .i64 rt, .slice a5 rr q5]) := MBox.start _ w6 _
      clear bn
      generalize hzg : w5.heap.size = zg at *
      clear hzg
      have cNA := NA.out.cells
      have cNW := NW.out.cells
      have cNX := NX.out.cells
      have cNG := NG.out.cells
      go_wp2_with fail
      generalize hxg : w6.heap.size = xg at *
      clear hxg
      generalize w6.alloc (.cells #[.int .i64 rb, .int .i64 rt, .slice a5 rr q5] 26) = W6 at *
      refine (EQR.out _ _ _ (Row.of_owns RG.out) (OwnE.rowE RW.out)).mono ?_
      rintro e w7 ⟨rfl, b8⟩
      clear cNA cNW cNX cNG
      replace SB : Hid (Below w.heap.size w w7) := Below.and SB.out b8
      replace NA : Hid (MBox 51 w7 w.heap.size #[.int .i64 b, .int .i64 bt, v]) := NA.out.step b8
      replace RW : Hid (OwnE w7 w2b.heap.size 39 6 (.slice a0 rr q0) rr (flatE R)) := OwnE.below RW.out b8
      replace NW : Hid (MBox 26 w7 xw #[.int .i64 rb, .int .i64 rt, .slice a0 rr q0]) := NW.out.step b8
      replace RX : Hid (w7.ownsRow zx 39 6 (.slice a2 ll q2) ll (flatE l)) := owns_below RX.out b8
      replace NX : Hid (MBox 26 w7 xx #[.int .i64 b, .int .i64 bt, .slice a2 ll q2]) := NX.out.step b8
      replace R4 : Hid (w7.ownsRow z3 39 6 (.slice a4 n3 q4) n3 (flatE l3)) := owns_below R4.out b8
      replace RG : Hid (w7.ownsRow zg 39 6 (.slice a5 rr q5) rr (flatE R)) := owns_below RG.out b8
      replace NG : Hid (MBox 26 w7 xg #[.int .i64 rb, .int .i64 rt, .slice a5 rr q5]) := NG.out.step b8
      clear b8
      have cNA := NA.out.cells
      have cNW := NW.out.cells
      have cNX := NX.out.cells
      have cNG := NG.out.cells
      go_wp2_with fail
      have KE14 : Hid (∀ u, Below w7.heap.size w7 u → (fun u => u.cell? ⟨w.heap.size, 0, none⟩ = some (.int .i64 b) ∧ u.cell? ⟨w.heap.size, 1, none⟩ = some (.int .i64 bt) ∧ u.cell? ⟨w.heap.size, 2, none⟩ = some (v) ∧ u.cell? ⟨xx, 0, none⟩ = some (.int .i64 b) ∧ u.cell? ⟨xx, 1, none⟩ = some (.int .i64 bt) ∧ u.cell? ⟨xx, 2, none⟩ = some (.slice a2 ll q2)) u) := fun u hu => by
        have k1 := (NA.out.step hu).cells
        have k2 := (NX.out.step hu).cells
        exact ⟨k1 0, k1 1, k1 2, k2 0, k2 1, k2 2⟩
      have RL : Hid (Below w7.heap.size w7 w7.drew) := (Below.refl _ _).drew
      refine wp_region_held_drew (S := (fun u => u.cell? ⟨w.heap.size, 0, none⟩ = some (.int .i64 b) ∧ u.cell? ⟨w.heap.size, 1, none⟩ = some (.int .i64 bt) ∧ u.cell? ⟨w.heap.size, 2, none⟩ = some (v) ∧ u.cell? ⟨xx, 0, none⟩ = some (.int .i64 b) ∧ u.cell? ⟨xx, 1, none⟩ = some (.int .i64 bt) ∧ u.cell? ⟨xx, 2, none⟩ = some (.slice a2 ll q2))) (by kernel_rfl) (KE14.out _ RL.out) (fun hH => ?_)
      refine wpAnyH_take (i := 0) (oi := ⟨_, _, _, _, _, _⟩) (v := ?_) rfl (by kernel_rfl) (by kernel_rfl) (by kernel_rfl) (fun _ _ _ h => h) (Or.inl ⟨by rfl, ?_⟩) (by assumption) ?_
      rotate_left
      · ((intro w hSw; (try dsimp only at hSw); go_simp); (try with_reducible rfl))
      try simp only [Act.put, List.setIfInBounds_toArray, List.set_cons_zero, List.set_cons_succ]
      refine wpAnyH_take (i := 1) (oi := ⟨_, _, _, _, _, _⟩) (v := ?_) rfl (by kernel_rfl) (by kernel_rfl) (by kernel_rfl) (fun _ _ _ h => h) (Or.inl ⟨by rfl, ?_⟩) (by assumption) ?_
      rotate_left
      · ((intro w hSw; (try dsimp only at hSw); go_simp); (try with_reducible rfl))
      try simp only [Act.put, List.setIfInBounds_toArray, List.set_cons_zero, List.set_cons_succ]
      refine wpAnyH_ready (rs := [2]) (by kernel_rfl) (by simp) ?_
      refine AllReadyH.cons (o := ⟨_, _, _, _, _, _⟩) rfl (fun K hK => ?_) AllReadyH.nil
      refine (if_pos (show Region.wanted _ _ = true by kernel_rfl)).mpr ?_
      refine call_by 35 [.tmp 63] #[51] rfl run_toL _ rfl (TO1.out _ (Below.and SB.out RL.out)) ?_
      rintro e u2 ⟨y6, rfl, t6, b9⟩
      have T6 : Hid (Row u2 y6 ll (flatE l)) := Row.of_owns t6
      replace RL : Hid (Below w7.heap.size w7 u2) := Below.and RL.out b9
      clear b9 t6
      refine ⟨_, rfl, ?_⟩
      refine hK.out _ _ (KE14.out _ RL.out) (fun hH2 => ?_)
      clear hK K hH
      have hH := hH2
      clear hH2
      try simp only [Act.put, List.setIfInBounds_toArray, List.set_cons_zero, List.set_cons_succ]
      refine wpAnyH_ready (rs := [3]) (by kernel_rfl) (by simp) ?_
      refine AllReadyH.cons (o := ⟨_, _, _, _, _, _⟩) rfl (fun K hK => ?_) AllReadyH.nil
      refine (if_pos (show Region.wanted _ _ = true by kernel_rfl)).mpr ?_
      refine call_by 36 [.tmp 62, .tmp 64] #[26, 26] rfl run_eqL _ rfl (EQL.out _ (.slice a2 ll q2) y6 ((Row.of_owns RX.out).below RL.out) T6.out) ?_
      rintro e u3 ⟨rfl, b9⟩
      replace RL : Hid (Below w7.heap.size w7 u3) := Below.and RL.out b9
      clear b9 T6
      refine ⟨_, rfl, ?_⟩
      refine hK.out _ _ (KE14.out _ RL.out) (fun hH2 => ?_)
      clear hK K hH
      have hH := hH2
      clear hH2
      try simp only [Act.put, List.setIfInBounds_toArray, List.set_cons_zero, List.set_cons_succ]
      refine wpAnyH_take (i := 4) (oi := ⟨_, _, _, _, _, _⟩) (v := ?_) rfl (by kernel_rfl) (by kernel_rfl) (by kernel_rfl) (fun _ _ _ h => h) (Or.inl ⟨by rfl, ?_⟩) (by assumption) ?_
      rotate_left
      · ((intro w hSw; (try dsimp only at hSw); go_simp); (try with_reducible rfl))
      try simp only [Act.put, List.setIfInBounds_toArray, List.set_cons_zero, List.set_cons_succ]
      refine wpAnyH_done (by kernel_rfl) ?_ _
      clear cNA cNW cNX cNG
      clear hH KE14
      have b9 := RL.out
      replace SB : Hid (Below w.heap.size w u3) := Below.and SB.out b9
      replace NA : Hid (MBox 51 u3 w.heap.size #[.int .i64 b, .int .i64 bt, v]) := NA.out.step b9
      replace RW : Hid (OwnE u3 w2b.heap.size 39 6 (.slice a0 rr q0) rr (flatE R)) := OwnE.below RW.out b9
      replace NW : Hid (MBox 26 u3 xw #[.int .i64 rb, .int .i64 rt, .slice a0 rr q0]) := NW.out.step b9
      replace RX : Hid (u3.ownsRow zx 39 6 (.slice a2 ll q2) ll (flatE l)) := owns_below RX.out b9
      replace NX : Hid (MBox 26 u3 xx #[.int .i64 b, .int .i64 bt, .slice a2 ll q2]) := NX.out.step b9
      replace R4 : Hid (u3.ownsRow z3 39 6 (.slice a4 n3 q4) n3 (flatE l3)) := owns_below R4.out b9
      replace RG : Hid (u3.ownsRow zg 39 6 (.slice a5 rr q5) rr (flatE R)) := owns_below RG.out b9
      replace NG : Hid (MBox 26 u3 xg #[.int .i64 rb, .int .i64 rt, .slice a5 rr q5]) := NG.out.step b9
      clear b9 RL
      have cNA := NA.out.cells
      have cNW := NW.out.cells
      have cNX := NX.out.cells
      have cNG := NG.out.cells
      go_wp2_with fail
      refine (TO3.out _ SB.out).mono ?_
      rintro e u4 ⟨y7, rfl, t7, b9⟩
      clear cNA cNW cNX cNG
      replace SB : Hid (Below w.heap.size w u4) := Below.and SB.out b9
      replace NA : Hid (MBox 51 u4 w.heap.size #[.int .i64 b, .int .i64 bt, v]) := NA.out.step b9
      replace RW : Hid (OwnE u4 w2b.heap.size 39 6 (.slice a0 rr q0) rr (flatE R)) := OwnE.below RW.out b9
      replace NW : Hid (MBox 26 u4 xw #[.int .i64 rb, .int .i64 rt, .slice a0 rr q0]) := NW.out.step b9
      replace RX : Hid (u4.ownsRow zx 39 6 (.slice a2 ll q2) ll (flatE l)) := owns_below RX.out b9
      replace NX : Hid (MBox 26 u4 xx #[.int .i64 b, .int .i64 bt, .slice a2 ll q2]) := NX.out.step b9
      replace R4 : Hid (u4.ownsRow z3 39 6 (.slice a4 n3 q4) n3 (flatE l3)) := owns_below R4.out b9
      replace RG : Hid (u4.ownsRow zg 39 6 (.slice a5 rr q5) rr (flatE R)) := owns_below RG.out b9
      replace NG : Hid (MBox 26 u4 xg #[.int .i64 rb, .int .i64 rt, .slice a5 rr q5]) := NG.out.step b9
      have T7 : Hid (Row u4 y7 n3 (flatE l3)) := Row.of_owns t7
      clear t7 b9
      have cNA := NA.out.cells
      have cNW := NW.out.cells
      have cNX := NX.out.cells
      have cNG := NG.out.cells
      go_wp2_with fail
      refine (EQ3.out _ _ _ (Row.of_owns R4.out) T7.out).mono ?_
      rintro e u5 ⟨rfl, b9⟩
      clear cNA cNW cNX cNG
      replace SB : Hid (Below w.heap.size w u5) := Below.and SB.out b9
      replace NA : Hid (MBox 51 u5 w.heap.size #[.int .i64 b, .int .i64 bt, v]) := NA.out.step b9
      replace RW : Hid (OwnE u5 w2b.heap.size 39 6 (.slice a0 rr q0) rr (flatE R)) := OwnE.below RW.out b9
      replace NW : Hid (MBox 26 u5 xw #[.int .i64 rb, .int .i64 rt, .slice a0 rr q0]) := NW.out.step b9
      replace RX : Hid (u5.ownsRow zx 39 6 (.slice a2 ll q2) ll (flatE l)) := owns_below RX.out b9
      replace NX : Hid (MBox 26 u5 xx #[.int .i64 b, .int .i64 bt, .slice a2 ll q2]) := NX.out.step b9
      replace R4 : Hid (u5.ownsRow z3 39 6 (.slice a4 n3 q4) n3 (flatE l3)) := owns_below R4.out b9
      replace RG : Hid (u5.ownsRow zg 39 6 (.slice a5 rr q5) rr (flatE R)) := owns_below RG.out b9
      replace NG : Hid (MBox 26 u5 xg #[.int .i64 rb, .int .i64 rt, .slice a5 rr q5]) := NG.out.step b9
      clear b9 T7
      have cNA := NA.out.cells
      have cNW := NW.out.cells
      have cNX := NX.out.cells
      have cNG := NG.out.cells
      go_wp2_with fail
      refine (MX.out _ _ (owns_mono RX.out (Nat.zero_le _))).mono ?_
      rintro e w8 ⟨rfl, o8, c8⟩
      clear cNA cNW cNX cNG
      have hzw : w.heap.size ≤ zx := ZW.out
      have hzo : zx ≤ zg := ZO.out
      have hzp : zx ≤ z3 ∧ z3 ≤ zg := ZP.out
      replace SB : Hid (Below w.heap.size w w8) := below_mark SB.out RX.out c8 (by omega)
      replace NA : Hid (MBox 51 w8 w.heap.size #[.int .i64 b, .int .i64 bt, v]) := NA.out.mark RX.out c8 (by decide)
      replace RW : Hid (OwnE w8 w2b.heap.size 39 6 (.slice a0 rr q0) rr (flatE R)) := OwnE.mark RW.out c8 LW.out (fun g hg => by have := (RX.out.lt g hg).1; omega)
      replace NW : Hid (MBox 26 w8 xw #[.int .i64 rb, .int .i64 rt, .slice a0 rr q0]) := NW.out.mark RX.out c8 (by decide)
      replace NX : Hid (MBox 26 w8 xx #[.int .i64 b, .int .i64 bt, .slice a2 ll q2]) := NX.out.mark RX.out c8 (by decide)
      replace R4 : Hid (w8.ownsRow z3 39 6 (.slice a4 n3 q4) n3 (flatE l3)) := owns_mark R4.out c8 LX0.out (by omega)
      replace RG : Hid (w8.ownsRow zg 39 6 (.slice a5 rr q5) rr (flatE R)) := owns_mark RG.out c8 LX.out (by omega)
      replace NG : Hid (MBox 26 w8 xg #[.int .i64 rb, .int .i64 rt, .slice a5 rr q5]) := NG.out.mark RX.out c8 (by decide)
      clear RX
      clear c8 o8
      have cNA := NA.out.cells
      have cNW := NW.out.cells
      have cNX := NX.out.cells
      have cNG := NG.out.cells
      go_wp2_with fail
      refine (M3.out _ _ (owns_mono R4.out (Nat.zero_le _))).mono ?_
      rintro e w8b ⟨rfl, o8, c8⟩
      clear cNA cNW cNX cNG
      replace SB : Hid (Below w.heap.size w w8b) := below_mark SB.out R4.out c8 (by omega)
      replace NA : Hid (MBox 51 w8b w.heap.size #[.int .i64 b, .int .i64 bt, v]) := NA.out.mark R4.out c8 (by decide)
      replace RW : Hid (OwnE w8b w2b.heap.size 39 6 (.slice a0 rr q0) rr (flatE R)) := OwnE.mark RW.out c8 LW.out (fun g hg => by have := (R4.out.lt g hg).1; omega)
      replace NW : Hid (MBox 26 w8b xw #[.int .i64 rb, .int .i64 rt, .slice a0 rr q0]) := NW.out.mark R4.out c8 (by decide)
      replace NX : Hid (MBox 26 w8b xx #[.int .i64 b, .int .i64 bt, .slice a2 ll q2]) := NX.out.mark R4.out c8 (by decide)
      replace RG : Hid (w8b.ownsRow zg 39 6 (.slice a5 rr q5) rr (flatE R)) := owns_mark RG.out c8 LX3.out (by omega)
      replace NG : Hid (MBox 26 w8b xg #[.int .i64 rb, .int .i64 rt, .slice a5 rr q5]) := NG.out.mark R4.out c8 (by decide)
      clear R4
      clear c8 o8
      have cNA := NA.out.cells
      have cNW := NW.out.cells
      have cNX := NX.out.cells
      have cNG := NG.out.cells
      go_wp2_with fail
      refine (EQR.out _ _ _ (Row.of_owns RG.out) (OwnE.rowE RW.out)).mono ?_
      rintro e w9 ⟨rfl, b8⟩
      clear cNA cNW cNX cNG
      replace SB : Hid (Below w.heap.size w w9) := Below.and SB.out b8
      replace NA : Hid (MBox 51 w9 w.heap.size #[.int .i64 b, .int .i64 bt, v]) := NA.out.step b8
      replace RW : Hid (OwnE w9 w2b.heap.size 39 6 (.slice a0 rr q0) rr (flatE R)) := OwnE.below RW.out b8
      replace NW : Hid (MBox 26 w9 xw #[.int .i64 rb, .int .i64 rt, .slice a0 rr q0]) := NW.out.step b8
      replace NX : Hid (MBox 26 w9 xx #[.int .i64 b, .int .i64 bt, .slice a2 ll q2]) := NX.out.step b8
      replace RG : Hid (w9.ownsRow zg 39 6 (.slice a5 rr q5) rr (flatE R)) := owns_below RG.out b8
      replace NG : Hid (MBox 26 w9 xg #[.int .i64 rb, .int .i64 rt, .slice a5 rr q5]) := NG.out.step b8
      clear b8
      have cNA := NA.out.cells
      have cNW := NW.out.cells
      have cNX := NX.out.cells
      have cNG := NG.out.cells
      go_wp2_with fail
      refine (MK.out _ _ (owns_mono RG.out (Nat.zero_le _))).mono ?_
      rintro e w10 ⟨rfl, o9, c9⟩
      clear cNA cNW cNX cNG
      replace SB : Hid (Below w.heap.size w w10) := below_mark SB.out RG.out c9 (by omega)
      replace NA : Hid (MBox 51 w10 w.heap.size #[.int .i64 b, .int .i64 bt, v]) := NA.out.mark RG.out c9 (by decide)
      replace RW : Hid (OwnE w10 w2b.heap.size 39 6 (.slice a0 rr q0) rr (flatE R)) := OwnE.mark RW.out c9 LW.out (fun g hg => by have := (RG.out.lt g hg).1; omega)
      replace NW : Hid (MBox 26 w10 xw #[.int .i64 rb, .int .i64 rt, .slice a0 rr q0]) := NW.out.mark RG.out c9 (by decide)
      replace NX : Hid (MBox 26 w10 xx #[.int .i64 b, .int .i64 bt, .slice a2 ll q2]) := NX.out.mark RG.out c9 (by decide)
      replace NG : Hid (MBox 26 w10 xg #[.int .i64 rb, .int .i64 rt, .slice a5 rr q5]) := NG.out.mark RG.out c9 (by decide)
      clear RG
      have RH : Hid (Row w10 (.slice a5 rr q5) rr (flatE (marksE 1 rr))) := Row.of_owns o9
      clear c9 o9
      have cNA := NA.out.cells
      have cNW := NW.out.cells
      have cNX := NX.out.cells
      have cNG := NG.out.cells
      go_wp2_with fail
      refine (HE.out _ _ RH.out).mono ?_
      rintro e w11 ⟨rfl, b8⟩
      clear cNA cNW cNX cNG
      replace SB : Hid (Below w.heap.size w w11) := Below.and SB.out b8
      replace NA : Hid (MBox 51 w11 w.heap.size #[.int .i64 b, .int .i64 bt, v]) := NA.out.step b8
      replace RW : Hid (OwnE w11 w2b.heap.size 39 6 (.slice a0 rr q0) rr (flatE R)) := OwnE.below RW.out b8
      replace NW : Hid (MBox 26 w11 xw #[.int .i64 rb, .int .i64 rt, .slice a0 rr q0]) := NW.out.step b8
      replace NX : Hid (MBox 26 w11 xx #[.int .i64 b, .int .i64 bt, .slice a2 ll q2]) := NX.out.step b8
      replace NG : Hid (MBox 26 w11 xg #[.int .i64 rb, .int .i64 rt, .slice a5 rr q5]) := NG.out.step b8
      replace RH : Hid (Row w11 (.slice a5 rr q5) rr (flatE (marksE 1 rr))) := Row.below RH.out b8
      clear b8
      have cNA := NA.out.cells
      have cNW := NW.out.cells
      have cNX := NX.out.cells
      have cNG := NG.out.cells
      go_wp2_with fail
      refine (TO1.out _ SB.out).mono ?_
      rintro e w12 ⟨y8, rfl, t8, b8⟩
      clear cNA cNW cNX cNG
      replace SB : Hid (Below w.heap.size w w12) := Below.and SB.out b8
      replace NA : Hid (MBox 51 w12 w.heap.size #[.int .i64 b, .int .i64 bt, v]) := NA.out.step b8
      replace RW : Hid (OwnE w12 w2b.heap.size 39 6 (.slice a0 rr q0) rr (flatE R)) := OwnE.below RW.out b8
      replace NW : Hid (MBox 26 w12 xw #[.int .i64 rb, .int .i64 rt, .slice a0 rr q0]) := NW.out.step b8
      replace NX : Hid (MBox 26 w12 xx #[.int .i64 b, .int .i64 bt, .slice a2 ll q2]) := NX.out.step b8
      replace NG : Hid (MBox 26 w12 xg #[.int .i64 rb, .int .i64 rt, .slice a5 rr q5]) := NG.out.step b8
      replace RH : Hid (Row w12 (.slice a5 rr q5) rr (flatE (marksE 1 rr))) := Row.below RH.out b8
      have R8 : Hid (Row w12 y8 ll (flatE l)) := Row.of_owns t8
      clear b8 t8
      obtain ⟨ay8, by8, oy8, qy8, hy8, -⟩ := R8.out
      subst hy8
      have cNA := NA.out.cells
      have cNW := NW.out.cells
      have cNX := NX.out.cells
      have cNG := NG.out.cells
      go_wp2_with fail
      refine (TO3.out _ SB.out).mono ?_
      rintro e w12b ⟨y9, rfl, t9, b8⟩
      clear cNA cNW cNX cNG
      replace SB : Hid (Below w.heap.size w w12b) := Below.and SB.out b8
      replace NA : Hid (MBox 51 w12b w.heap.size #[.int .i64 b, .int .i64 bt, v]) := NA.out.step b8
      replace RW : Hid (OwnE w12b w2b.heap.size 39 6 (.slice a0 rr q0) rr (flatE R)) := OwnE.below RW.out b8
      replace NW : Hid (MBox 26 w12b xw #[.int .i64 rb, .int .i64 rt, .slice a0 rr q0]) := NW.out.step b8
      replace NX : Hid (MBox 26 w12b xx #[.int .i64 b, .int .i64 bt, .slice a2 ll q2]) := NX.out.step b8
      replace NG : Hid (MBox 26 w12b xg #[.int .i64 rb, .int .i64 rt, .slice a5 rr q5]) := NG.out.step b8
      replace RH : Hid (Row w12b (.slice a5 rr q5) rr (flatE (marksE 1 rr))) := Row.below RH.out b8
      replace R8 : Hid (Row w12b (.slice ay8 ll qy8) ll (flatE l)) := Row.below R8.out b8
      have R9 : Hid (Row w12b y9 n3 (flatE l3)) := Row.of_owns t9
      clear b8 t9
      have cNA := NA.out.cells
      have cNW := NW.out.cells
      have cNX := NX.out.cells
      have cNG := NG.out.cells
      go_wp2_with fail
      refine (CI.out _ _ _ R8.out R9.out).mono ?_
      rintro e w13 ⟨y10, rfl, t10, b8⟩
      clear cNA cNW cNX cNG
      clear R8
      clear R9
      obtain ⟨a6, q6, hy6⟩ := owns_val t10
      subst hy6
      replace SB : Hid (Below w.heap.size w w13) := Below.and SB.out b8
      replace NA : Hid (MBox 51 w13 w.heap.size #[.int .i64 b, .int .i64 bt, v]) := NA.out.step b8
      replace RW : Hid (OwnE w13 w2b.heap.size 39 6 (.slice a0 rr q0) rr (flatE R)) := OwnE.below RW.out b8
      replace NW : Hid (MBox 26 w13 xw #[.int .i64 rb, .int .i64 rt, .slice a0 rr q0]) := NW.out.step b8
      replace NX : Hid (MBox 26 w13 xx #[.int .i64 b, .int .i64 bt, .slice a2 ll q2]) := NX.out.step b8
      replace NG : Hid (MBox 26 w13 xg #[.int .i64 rb, .int .i64 rt, .slice a5 rr q5]) := NG.out.step b8
      replace RH : Hid (Row w13 (.slice a5 rr q5) rr (flatE (marksE 1 rr))) := Row.below RH.out b8
      have RK : Hid (Row w13 (.slice a6 rr q6) rr (flatE R)) := Row.of_owns t10
      clear b8 t10
      have bn := bel_nw w13 (.cells #[.int .i64 rb, .int .i64 rt, .slice a6 rr q6] 26)
      replace SB : Hid (Below w.heap.size w (w13.alloc (.cells #[.int .i64 rb, .int .i64 rt, .slice a6 rr q6] 26))) := Below.and SB.out bn
      replace NA : Hid (MBox 51 (w13.alloc (.cells #[.int .i64 rb, .int .i64 rt, .slice a6 rr q6] 26)) w.heap.size #[.int .i64 b, .int .i64 bt, v]) := NA.out.step bn
      replace RW : Hid (OwnE (w13.alloc (.cells #[.int .i64 rb, .int .i64 rt, .slice a6 rr q6] 26)) w2b.heap.size 39 6 (.slice a0 rr q0) rr (flatE R)) := OwnE.below RW.out bn
      replace NW : Hid (MBox 26 (w13.alloc (.cells #[.int .i64 rb, .int .i64 rt, .slice a6 rr q6] 26)) xw #[.int .i64 rb, .int .i64 rt, .slice a0 rr q0]) := NW.out.step bn
      replace NX : Hid (MBox 26 (w13.alloc (.cells #[.int .i64 rb, .int .i64 rt, .slice a6 rr q6] 26)) xx #[.int .i64 b, .int .i64 bt, .slice a2 ll q2]) := NX.out.step bn
      replace NG : Hid (MBox 26 (w13.alloc (.cells #[.int .i64 rb, .int .i64 rt, .slice a6 rr q6] 26)) xg #[.int .i64 rb, .int .i64 rt, .slice a5 rr q5]) := NG.out.step bn
      replace RH : Hid (Row (w13.alloc (.cells #[.int .i64 rb, .int .i64 rt, .slice a6 rr q6] 26)) (.slice a5 rr q5) rr (flatE (marksE 1 rr))) := Row.below RH.out bn
      replace RK : Hid (Row (w13.alloc (.cells #[.int .i64 rb, .int .i64 rt, .slice a6 rr q6] 26)) (.slice a6 rr q6) rr (flatE R)) := Row.below RK.out bn
      have NH : Hid (MBox 26 (w13.alloc (.cells #[.int .i64 rb, .int .i64 rt, .slice a6 rr q6] 26)) w13.heap.size #[.int .i64 rb, .int .i64 rt, .slice a6 rr q6]) := MBox.start _ w13 _
      clear bn
      have cNA := NA.out.cells
      have cNW := NW.out.cells
      have cNX := NX.out.cells
      have cNG := NG.out.cells
      have cNH := NH.out.cells
      go_wp2_with fail
      generalize hxh : w13.heap.size = xh at *
      clear hxh
      generalize w13.alloc (.cells #[.int .i64 rb, .int .i64 rt, .slice a6 rr q6] 26) = W13 at *
      refine (EQR.out _ _ _ RK.out (OwnE.rowE RW.out)).mono ?_
      rintro e w14 ⟨rfl, b8⟩
      clear cNA cNW cNX cNG cNH
      replace SB : Hid (Below w.heap.size w w14) := Below.and SB.out b8
      replace NA : Hid (MBox 51 w14 w.heap.size #[.int .i64 b, .int .i64 bt, v]) := NA.out.step b8
      replace RW : Hid (OwnE w14 w2b.heap.size 39 6 (.slice a0 rr q0) rr (flatE R)) := OwnE.below RW.out b8
      replace NW : Hid (MBox 26 w14 xw #[.int .i64 rb, .int .i64 rt, .slice a0 rr q0]) := NW.out.step b8
      replace NX : Hid (MBox 26 w14 xx #[.int .i64 b, .int .i64 bt, .slice a2 ll q2]) := NX.out.step b8
      replace NG : Hid (MBox 26 w14 xg #[.int .i64 rb, .int .i64 rt, .slice a5 rr q5]) := NG.out.step b8
      replace RH : Hid (Row w14 (.slice a5 rr q5) rr (flatE (marksE 1 rr))) := Row.below RH.out b8
      replace RK : Hid (Row w14 (.slice a6 rr q6) rr (flatE R)) := Row.below RK.out b8
      replace NH : Hid (MBox 26 w14 xh #[.int .i64 rb, .int .i64 rt, .slice a6 rr q6]) := NH.out.step b8
      clear b8
      have cNA := NA.out.cells
      have cNW := NW.out.cells
      have cNX := NX.out.cells
      have cNG := NG.out.cells
      have cNH := NH.out.cells
      go_wp2_with fail
      refine (HE.out _ _ RH.out).mono ?_
      rintro e w15 ⟨rfl, b8⟩
      clear cNA cNW cNX cNG cNH
      replace SB : Hid (Below w.heap.size w w15) := Below.and SB.out b8
      replace NA : Hid (MBox 51 w15 w.heap.size #[.int .i64 b, .int .i64 bt, v]) := NA.out.step b8
      replace RW : Hid (OwnE w15 w2b.heap.size 39 6 (.slice a0 rr q0) rr (flatE R)) := OwnE.below RW.out b8
      replace NW : Hid (MBox 26 w15 xw #[.int .i64 rb, .int .i64 rt, .slice a0 rr q0]) := NW.out.step b8
      replace NX : Hid (MBox 26 w15 xx #[.int .i64 b, .int .i64 bt, .slice a2 ll q2]) := NX.out.step b8
      replace NG : Hid (MBox 26 w15 xg #[.int .i64 rb, .int .i64 rt, .slice a5 rr q5]) := NG.out.step b8
      replace RH : Hid (Row w15 (.slice a5 rr q5) rr (flatE (marksE 1 rr))) := Row.below RH.out b8
      replace RK : Hid (Row w15 (.slice a6 rr q6) rr (flatE R)) := Row.below RK.out b8
      replace NH : Hid (MBox 26 w15 xh #[.int .i64 rb, .int .i64 rt, .slice a6 rr q6]) := NH.out.step b8
      clear b8
      go_wp2
      go_ret
      exact ⟨rfl, SB.out⟩
    · rw [if_neg hb3] at SZ3
      go_enter Try.func10, Try.ntmps10
      go_wp2_with fail
      generalize (w.alloc (.cells #[.int .i64 b, .int .i64 bt, v] 51)) = W at *
      refine (SZ1.out _ HB.out.1).mono ?_
      rintro e w1 ⟨rfl, b1⟩
      go_wp2_with fail
      refine (SZ3.out _).mono ?_
      rintro e w2 ⟨rfl, hw⟩
      subst hw
      go_wp2
      go_ret
      exact ⟨rfl, Below.and HB.out.1 b1⟩
  · rw [if_neg hb1] at SZ1
    go_enter Try.func10, Try.ntmps10
    go_wp2_with fail
    generalize (w.alloc (.cells #[.int .i64 b, .int .i64 bt, v] 51)) = W at *
    refine (SZ1.out _ HB.out.1).mono ?_
    rintro e w1 ⟨rfl, b1⟩
    go_wp2
    go_ret
    exact ⟨rfl, Below.and HB.out.1 b1⟩

end Go.Proofs.Yteegcblndbljlaa
