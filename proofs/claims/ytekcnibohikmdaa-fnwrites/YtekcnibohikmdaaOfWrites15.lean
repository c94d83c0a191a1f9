/-
  The model's GetNum.
-/
import Derived.Test.YtekcnibohikmdaaOfWrites14
import Derived.Test.YtekcnibohikmdaaOfWrites13
import Derived.Laws.BitsLemmas
namespace Go.Proofs.Ytekcnibohikmdaa
set_option maxRecDepth 100000
set_option maxHeartbeats 8000000
section
open Go.RowKit

def gotN (g : Option (Int × Int)) : Value := match g with
 | some (x, p) => .tuple #[.int .i64 x, .int .i64 p, .bool true]
 | none => .tuple #[.int .i64 0, .int .i64 0, .bool false]

theorem wraps_i64 (n : Int) (h0 : 0 ≤ n) (h1 : n < 2 ^ 62) : IntKind.i64.wrap n = n := by rw [IntKind.wrap_i64]; omega
theorem nat_or_comm (k : IntKind) (j : Nat) (hj : j ≤ k.bits) (hk : ∀ n : Int, 0 ≤ n → n < 2 ^ j → k.wrap n = n) (x y : Int) (hx : 0 ≤ x) (hx1 : x < 2 ^ j) (hy : 0 ≤ y) (hy1 : y < 2 ^ j) : bits .or k x y = bits .or k y x := by
 obtain ⟨a, rfl⟩ := Int.eq_ofNat_of_zero_le hx
 obtain ⟨b, rfl⟩ := Int.eq_ofNat_of_zero_le hy
 have ha : a < 2 ^ j := by exact_mod_cast hx1
 have hb : b < 2 ^ j := by exact_mod_cast hy1
 rw [(bits_nat k j hj hk a b ha hb).2, (bits_nat k j hj hk b a hb ha).2, Nat.or_comm]
theorem or_low (i : Nat) (hi : i ≤ 40) (n d : Int) (h0 : 0 ≤ n) (h1 : n < 2 ^ i) (h2 : 0 ≤ d) (h3 : d < 128) : bits .or .i64 n (d * 2 ^ i) = n + d * 2 ^ i := by
 have hp : (0 : Int) < 2 ^ i := Int.pow_pos (by decide)
 have h40 : (2 : Int) ^ i ≤ 2 ^ 40 := by
  have : (2 : Nat) ^ i ≤ 2 ^ 40 := Nat.pow_le_pow_right (by decide) hi
  exact_mod_cast this
 have hd : 0 ≤ d * 2 ^ i := Int.mul_nonneg h2 (by omega)
 have hd2 : d * 2 ^ i ≤ 127 * 2 ^ i := Int.mul_le_mul_of_nonneg_right (by omega) (by omega)
 have e40 : (2 : Int) ^ 40 = 1099511627776 := by decide
 have e62 : (2 : Int) ^ 62 = 4611686018427387904 := by decide
 rw [nat_or_comm .i64 62 (by decide) wraps_i64 n _ h0 (by omega) hd (by omega)]
 rw [bits_join .i64 62 (by decide) wraps_i64 i (d * 2 ^ i) n hd (by simp) (by omega) h0 h1 (by omega)]
 omega

theorem specGetNum_any (v : Value) (bs : List Int) (at_ : Int) (w : World) (hr : Row w v bs.length (flatB bs)) (hbs : inByte bs) (hn : bs.length ≤ 1099511627776) :
  Calls Try.prog 66 #[v, .int .i64 at_] w fun e w' => e = .returned (gotN (getN bs at_)) ∧ Below w.heap.size w w' := by
 obtain ⟨a, b, off, cap, rfl, hcap, hmax, ha, hk⟩ := hr.bytes
 unfold maxLen at hmax
 by_cases h0 : 0 ≤ at_
 ·obtain ⟨A, rfl⟩ := Int.eq_ofNat_of_zero_le h0
  by_cases h1 : (A : Int) < bs.length
  ·have hal := ha (by omega)
   subst hal
   clear ha hr
   go_enter Try.func66, Try.ntmps66
   go_wp2
   go_loopw [7, 8] (fun n k wr => ∃ (j : Nat) (c : Int), n = .int .i64 c ∧ k = .int .i64 j ∧ Reading bs A j (unitN j) c ∧ Below w.heap.size w wr)
    (fun _ k _ => (5 - intOf k).toNat)
   case atStart => exact ⟨0, 0, rfl, rfl, Reading.start bs A, Below.refl _ _⟩
   case round =>
    obtain ⟨j, c, rfl, rfl, hR, hb⟩ := hrel
    have hj := hR.le
    have hc0 := hR.low
    have hc1 := hR.high
    have BB : Hid (Below w.heap.size w wr) := hb
    by_cases hj5 : j < 5
    ·by_cases HIN : (A : Int) + j < bs.length
     ·have hbv := hbs.at (A + j)
      have hcell : wr.cell? ⟨b, off + (A + j), none⟩ = some (.int .u8 (byOf bs (A + j))) := (hb.cell (by exact cell_lt (hk (A + j) (by omega)))).trans (hk (A + j) (by omega))
      have ST : Hid _ := fun h => hR.stop hj5 h0 HIN (b := byOf bs (A + j)) (by simp) h
      have SP : Hid _ := fun h => hR.step hj5 h0 HIN (b := byOf bs (A + j)) (by simp) h
      generalize byOf bs (A + j) = y at *
      obtain ⟨y0, y1⟩ := hbv
      clear hk hb
      obtain ⟨J, hJ⟩ : ∃ J : Int, J = (j : Int) := ⟨_, rfl⟩
      rw [← hJ]
      rw [← hJ] at HIN
      rcases (show j = 0 ∨ j = 1 ∨ j = 2 ∨ j = 3 ∨ j = 4 by omega) with rfl | rfl | rfl | rfl | rfl
      --ROUNDS
      ·have e0 : unitN 0 = 1 := rfl
       rw [e0] at ST SP hc1
       clear hj hR hj5 e0
       rw [Nat.add_zero] at hcell
       have hJ' : J = 0 := by simpa using hJ
       rw [show (((0 : Nat)) : Int) = 0 from rfl] at hJ
       clear hJ
       subst hJ'
       have e2 : y % 128 * 1 = y % 128 := by omega
       rw [e2] at ST SP
       have hOr0 := or_low 0 (by decide) c (y % 128) hc0 (by omega) (by omega) (by omega)
       have e3 : y % 128 * 2 ^ 0 = y % 128 := by omega
       rw [e3] at hOr0
       clear e2 e3
       have n0 : 0 ≤ c + y % 128 := by omega
       have n1 : c + y % 128 ≤ 4400000000000 := by omega
       generalize c + y % 128 = n at *
       by_cases hy : y < 128
       ·by_cases ho : n % 2 = 1
        ·have hod : (n % 2 == 1) = true := by simp [ho]
         have EX : Hid (-(n / 2) - 1 = numN n) := by show _ = _; rw [numN_odd ho]; omega
         clear ho
         have HOR : 0 < y ∨ (1 : Int) = 1 := .inr rfl
         by_cases hz : y = 0
         ·have hyd : (y == 0) = true := by simp [hz]
          clear hz
          go_wp2_with fail
          refine (specPutNum_any _ _).mono ?_
          rintro e w1 ⟨v1, rfl, o1, b1⟩
          obtain ⟨a1, q1, rfl, _, hq1⟩ := owns_shape o1
          rw [EX.out] at *
          clear o1
          have B1 : Hid (Below w.heap.size w w1) := Below.and BB.out b1
          clear b1
          by_cases hn4 : n ≤ 4000000000
          ·have hlen : 0 < (putN (numN n)).length := by
            rcases Nat.eq_zero_or_pos (putN (numN n)).length with h | h
            ·exact absurd ((numN_in n0).2 hn4) (putN_none.1 h)
            ·exact h
           have hle := putN_length (numN n)
           have G : Hid (getN bs A = some (numN n, (A : Int) + 0 + 1)) := by show _ = _; rw [ST.out hy, if_pos ⟨HOR, hn4⟩]; simp
           generalize (putN (numN n)).length = L at *
           have hL : ((L : Int) == 0) = false := by simp; omega
           go_wp2
           refine bodyPost_ret (v := .tuple #[.int .i64 (numN n), .int .i64 ((A : Int) + 0 + 1), .bool true]) (by simp [results, Try.results66, go_sem]) rfl ⟨?_, B1.out⟩
           rw [G.out]
           rfl
          ·have hlen : (putN (numN n)).length = 0 := putN_none.2 (fun h => hn4 ((numN_in n0).1 h))
           have G : Hid (getN bs A = none) := by show _ = _; rw [ST.out hy, if_neg (fun h => hn4 h.2)]
           generalize (putN (numN n)).length = L at *
           subst hlen
           go_wp2
           refine bodyPost_ret (v := .tuple #[.int .i64 0, .int .i64 0, .bool false]) (by simp [results, Try.results66, go_sem]) rfl ⟨?_, B1.out⟩
           rw [G.out]
           rfl
         ·have hyd : (y == 0) = false := by simp [hz]
          clear hz
          go_wp2_with fail
          refine (specPutNum_any _ _).mono ?_
          rintro e w1 ⟨v1, rfl, o1, b1⟩
          obtain ⟨a1, q1, rfl, _, hq1⟩ := owns_shape o1
          rw [EX.out] at *
          clear o1
          have B1 : Hid (Below w.heap.size w w1) := Below.and BB.out b1
          clear b1
          by_cases hn4 : n ≤ 4000000000
          ·have hlen : 0 < (putN (numN n)).length := by
            rcases Nat.eq_zero_or_pos (putN (numN n)).length with h | h
            ·exact absurd ((numN_in n0).2 hn4) (putN_none.1 h)
            ·exact h
           have hle := putN_length (numN n)
           have G : Hid (getN bs A = some (numN n, (A : Int) + 0 + 1)) := by show _ = _; rw [ST.out hy, if_pos ⟨HOR, hn4⟩]; simp
           generalize (putN (numN n)).length = L at *
           have hL : ((L : Int) == 0) = false := by simp; omega
           go_wp2
           refine bodyPost_ret (v := .tuple #[.int .i64 (numN n), .int .i64 ((A : Int) + 0 + 1), .bool true]) (by simp [results, Try.results66, go_sem]) rfl ⟨?_, B1.out⟩
           rw [G.out]
           rfl
          ·have hlen : (putN (numN n)).length = 0 := putN_none.2 (fun h => hn4 ((numN_in n0).1 h))
           have G : Hid (getN bs A = none) := by show _ = _; rw [ST.out hy, if_neg (fun h => hn4 h.2)]
           generalize (putN (numN n)).length = L at *
           subst hlen
           go_wp2
           refine bodyPost_ret (v := .tuple #[.int .i64 0, .int .i64 0, .bool false]) (by simp [results, Try.results66, go_sem]) rfl ⟨?_, B1.out⟩
           rw [G.out]
           rfl
        ·have hod : (n % 2 == 1) = false := by simp [ho]
         have EX : Hid (n / 2 = numN n) := (numN_even ho).symm
         clear ho
         have HOR : 0 < y ∨ (1 : Int) = 1 := .inr rfl
         by_cases hz : y = 0
         ·have hyd : (y == 0) = true := by simp [hz]
          clear hz
          go_wp2_with fail
          refine (specPutNum_any _ _).mono ?_
          rintro e w1 ⟨v1, rfl, o1, b1⟩
          obtain ⟨a1, q1, rfl, _, hq1⟩ := owns_shape o1
          rw [EX.out] at *
          clear o1
          have B1 : Hid (Below w.heap.size w w1) := Below.and BB.out b1
          clear b1
          by_cases hn4 : n ≤ 4000000000
          ·have hlen : 0 < (putN (numN n)).length := by
            rcases Nat.eq_zero_or_pos (putN (numN n)).length with h | h
            ·exact absurd ((numN_in n0).2 hn4) (putN_none.1 h)
            ·exact h
           have hle := putN_length (numN n)
           have G : Hid (getN bs A = some (numN n, (A : Int) + 0 + 1)) := by show _ = _; rw [ST.out hy, if_pos ⟨HOR, hn4⟩]; simp
           generalize (putN (numN n)).length = L at *
           have hL : ((L : Int) == 0) = false := by simp; omega
           go_wp2
           refine bodyPost_ret (v := .tuple #[.int .i64 (numN n), .int .i64 ((A : Int) + 0 + 1), .bool true]) (by simp [results, Try.results66, go_sem]) rfl ⟨?_, B1.out⟩
           rw [G.out]
           rfl
          ·have hlen : (putN (numN n)).length = 0 := putN_none.2 (fun h => hn4 ((numN_in n0).1 h))
           have G : Hid (getN bs A = none) := by show _ = _; rw [ST.out hy, if_neg (fun h => hn4 h.2)]
           generalize (putN (numN n)).length = L at *
           subst hlen
           go_wp2
           refine bodyPost_ret (v := .tuple #[.int .i64 0, .int .i64 0, .bool false]) (by simp [results, Try.results66, go_sem]) rfl ⟨?_, B1.out⟩
           rw [G.out]
           rfl
         ·have hyd : (y == 0) = false := by simp [hz]
          clear hz
          go_wp2_with fail
          refine (specPutNum_any _ _).mono ?_
          rintro e w1 ⟨v1, rfl, o1, b1⟩
          obtain ⟨a1, q1, rfl, _, hq1⟩ := owns_shape o1
          rw [EX.out] at *
          clear o1
          have B1 : Hid (Below w.heap.size w w1) := Below.and BB.out b1
          clear b1
          by_cases hn4 : n ≤ 4000000000
          ·have hlen : 0 < (putN (numN n)).length := by
            rcases Nat.eq_zero_or_pos (putN (numN n)).length with h | h
            ·exact absurd ((numN_in n0).2 hn4) (putN_none.1 h)
            ·exact h
           have hle := putN_length (numN n)
           have G : Hid (getN bs A = some (numN n, (A : Int) + 0 + 1)) := by show _ = _; rw [ST.out hy, if_pos ⟨HOR, hn4⟩]; simp
           generalize (putN (numN n)).length = L at *
           have hL : ((L : Int) == 0) = false := by simp; omega
           go_wp2
           refine bodyPost_ret (v := .tuple #[.int .i64 (numN n), .int .i64 ((A : Int) + 0 + 1), .bool true]) (by simp [results, Try.results66, go_sem]) rfl ⟨?_, B1.out⟩
           rw [G.out]
           rfl
          ·have hlen : (putN (numN n)).length = 0 := putN_none.2 (fun h => hn4 ((numN_in n0).1 h))
           have G : Hid (getN bs A = none) := by show _ = _; rw [ST.out hy, if_neg (fun h => hn4 h.2)]
           generalize (putN (numN n)).length = L at *
           subst hlen
           go_wp2
           refine bodyPost_ret (v := .tuple #[.int .i64 0, .int .i64 0, .bool false]) (by simp [results, Try.results66, go_sem]) rfl ⟨?_, B1.out⟩
           rw [G.out]
           rfl
       ·have SS : Hid _ := SP.out (by omega)
        go_wp2
        go_roundw
        case rel => exact ⟨1, n, rfl, by go_num, by have := SS.out; exact this, BB.out⟩
        case measure => simp [intOf]
      ·have e0 : unitN 1 = 128 := rfl
       rw [e0] at ST SP hc1
       clear hj hR hj5 e0
       have hJ' : J = 1 := by simpa using hJ
       rw [show (((1 : Nat)) : Int) = 1 from rfl] at hJ
       clear hJ
       subst hJ'
       have e2 : y % 128 * 128 = y % 128 * 128 := by omega
       rw [e2] at ST SP
       have hOr0 := or_low 7 (by decide) c (y % 128) hc0 (by omega) (by omega) (by omega)
       have e3 : y % 128 * 2 ^ 7 = y % 128 * 128 := by omega
       rw [e3] at hOr0
       clear e2 e3
       have n0 : 0 ≤ c + y % 128 * 128 := by omega
       have n1 : c + y % 128 * 128 ≤ 4400000000000 := by omega
       generalize c + y % 128 * 128 = n at *
       by_cases hy : y < 128
       ·by_cases ho : n % 2 = 1
        ·have hod : (n % 2 == 1) = true := by simp [ho]
         have EX : Hid (-(n / 2) - 1 = numN n) := by show _ = _; rw [numN_odd ho]; omega
         clear ho
         by_cases hz : y = 0
         ·have G : Hid (getN bs A = none) := by show _ = _; rw [ST.out hy, if_neg (by rintro ⟨h | h, _⟩ <;> omega)]
          have hyd : (y == 0) = true := by simp [hz]
          clear hz
          go_wp2
          refine bodyPost_ret (v := .tuple #[.int .i64 0, .int .i64 0, .bool false]) (by simp [results, Try.results66, go_sem]) rfl ⟨?_, BB.out⟩
          rw [G.out]
          rfl
         ·have HOR : 0 < y ∨ (128 : Int) = 1 := .inl (by omega)
          have hyd : (y == 0) = false := by simp [hz]
          clear hz
          go_wp2_with fail
          refine (specPutNum_any _ _).mono ?_
          rintro e w1 ⟨v1, rfl, o1, b1⟩
          obtain ⟨a1, q1, rfl, _, hq1⟩ := owns_shape o1
          rw [EX.out] at *
          clear o1
          have B1 : Hid (Below w.heap.size w w1) := Below.and BB.out b1
          clear b1
          by_cases hn4 : n ≤ 4000000000
          ·have hlen : 0 < (putN (numN n)).length := by
            rcases Nat.eq_zero_or_pos (putN (numN n)).length with h | h
            ·exact absurd ((numN_in n0).2 hn4) (putN_none.1 h)
            ·exact h
           have hle := putN_length (numN n)
           have G : Hid (getN bs A = some (numN n, (A : Int) + 1 + 1)) := by show _ = _; rw [ST.out hy, if_pos ⟨HOR, hn4⟩]; simp
           generalize (putN (numN n)).length = L at *
           have hL : ((L : Int) == 0) = false := by simp; omega
           go_wp2
           refine bodyPost_ret (v := .tuple #[.int .i64 (numN n), .int .i64 ((A : Int) + 1 + 1), .bool true]) (by simp [results, Try.results66, go_sem]) rfl ⟨?_, B1.out⟩
           rw [G.out]
           rfl
          ·have hlen : (putN (numN n)).length = 0 := putN_none.2 (fun h => hn4 ((numN_in n0).1 h))
           have G : Hid (getN bs A = none) := by show _ = _; rw [ST.out hy, if_neg (fun h => hn4 h.2)]
           generalize (putN (numN n)).length = L at *
           subst hlen
           go_wp2
           refine bodyPost_ret (v := .tuple #[.int .i64 0, .int .i64 0, .bool false]) (by simp [results, Try.results66, go_sem]) rfl ⟨?_, B1.out⟩
           rw [G.out]
           rfl
        ·have hod : (n % 2 == 1) = false := by simp [ho]
         have EX : Hid (n / 2 = numN n) := (numN_even ho).symm
         clear ho
         by_cases hz : y = 0
         ·have G : Hid (getN bs A = none) := by show _ = _; rw [ST.out hy, if_neg (by rintro ⟨h | h, _⟩ <;> omega)]
          have hyd : (y == 0) = true := by simp [hz]
          clear hz
          go_wp2
          refine bodyPost_ret (v := .tuple #[.int .i64 0, .int .i64 0, .bool false]) (by simp [results, Try.results66, go_sem]) rfl ⟨?_, BB.out⟩
          rw [G.out]
          rfl
         ·have HOR : 0 < y ∨ (128 : Int) = 1 := .inl (by omega)
          have hyd : (y == 0) = false := by simp [hz]
          clear hz
          go_wp2_with fail
          refine (specPutNum_any _ _).mono ?_
          rintro e w1 ⟨v1, rfl, o1, b1⟩
          obtain ⟨a1, q1, rfl, _, hq1⟩ := owns_shape o1
          rw [EX.out] at *
          clear o1
          have B1 : Hid (Below w.heap.size w w1) := Below.and BB.out b1
          clear b1
          by_cases hn4 : n ≤ 4000000000
          ·have hlen : 0 < (putN (numN n)).length := by
            rcases Nat.eq_zero_or_pos (putN (numN n)).length with h | h
            ·exact absurd ((numN_in n0).2 hn4) (putN_none.1 h)
            ·exact h
           have hle := putN_length (numN n)
           have G : Hid (getN bs A = some (numN n, (A : Int) + 1 + 1)) := by show _ = _; rw [ST.out hy, if_pos ⟨HOR, hn4⟩]; simp
           generalize (putN (numN n)).length = L at *
           have hL : ((L : Int) == 0) = false := by simp; omega
           go_wp2
           refine bodyPost_ret (v := .tuple #[.int .i64 (numN n), .int .i64 ((A : Int) + 1 + 1), .bool true]) (by simp [results, Try.results66, go_sem]) rfl ⟨?_, B1.out⟩
           rw [G.out]
           rfl
          ·have hlen : (putN (numN n)).length = 0 := putN_none.2 (fun h => hn4 ((numN_in n0).1 h))
           have G : Hid (getN bs A = none) := by show _ = _; rw [ST.out hy, if_neg (fun h => hn4 h.2)]
           generalize (putN (numN n)).length = L at *
           subst hlen
           go_wp2
           refine bodyPost_ret (v := .tuple #[.int .i64 0, .int .i64 0, .bool false]) (by simp [results, Try.results66, go_sem]) rfl ⟨?_, B1.out⟩
           rw [G.out]
           rfl
       ·have SS : Hid _ := SP.out (by omega)
        go_wp2
        go_roundw
        case rel => exact ⟨2, n, rfl, by go_num, by have := SS.out; exact this, BB.out⟩
        case measure => simp [intOf]
      ·have e0 : unitN 2 = 16384 := rfl
       rw [e0] at ST SP hc1
       clear hj hR hj5 e0
       have hJ' : J = 2 := by simpa using hJ
       rw [show (((2 : Nat)) : Int) = 2 from rfl] at hJ
       clear hJ
       subst hJ'
       have e2 : y % 128 * 16384 = y % 128 * 16384 := by omega
       rw [e2] at ST SP
       have hOr0 := or_low 14 (by decide) c (y % 128) hc0 (by omega) (by omega) (by omega)
       have e3 : y % 128 * 2 ^ 14 = y % 128 * 16384 := by omega
       rw [e3] at hOr0
       clear e2 e3
       have n0 : 0 ≤ c + y % 128 * 16384 := by omega
       have n1 : c + y % 128 * 16384 ≤ 4400000000000 := by omega
       generalize c + y % 128 * 16384 = n at *
       by_cases hy : y < 128
       ·by_cases ho : n % 2 = 1
        ·have hod : (n % 2 == 1) = true := by simp [ho]
         have EX : Hid (-(n / 2) - 1 = numN n) := by show _ = _; rw [numN_odd ho]; omega
         clear ho
         by_cases hz : y = 0
         ·have G : Hid (getN bs A = none) := by show _ = _; rw [ST.out hy, if_neg (by rintro ⟨h | h, _⟩ <;> omega)]
          have hyd : (y == 0) = true := by simp [hz]
          clear hz
          go_wp2
          refine bodyPost_ret (v := .tuple #[.int .i64 0, .int .i64 0, .bool false]) (by simp [results, Try.results66, go_sem]) rfl ⟨?_, BB.out⟩
          rw [G.out]
          rfl
         ·have HOR : 0 < y ∨ (16384 : Int) = 1 := .inl (by omega)
          have hyd : (y == 0) = false := by simp [hz]
          clear hz
          go_wp2_with fail
          refine (specPutNum_any _ _).mono ?_
          rintro e w1 ⟨v1, rfl, o1, b1⟩
          obtain ⟨a1, q1, rfl, _, hq1⟩ := owns_shape o1
          rw [EX.out] at *
          clear o1
          have B1 : Hid (Below w.heap.size w w1) := Below.and BB.out b1
          clear b1
          by_cases hn4 : n ≤ 4000000000
          ·have hlen : 0 < (putN (numN n)).length := by
            rcases Nat.eq_zero_or_pos (putN (numN n)).length with h | h
            ·exact absurd ((numN_in n0).2 hn4) (putN_none.1 h)
            ·exact h
           have hle := putN_length (numN n)
           have G : Hid (getN bs A = some (numN n, (A : Int) + 2 + 1)) := by show _ = _; rw [ST.out hy, if_pos ⟨HOR, hn4⟩]; simp
           generalize (putN (numN n)).length = L at *
           have hL : ((L : Int) == 0) = false := by simp; omega
           go_wp2
           refine bodyPost_ret (v := .tuple #[.int .i64 (numN n), .int .i64 ((A : Int) + 2 + 1), .bool true]) (by simp [results, Try.results66, go_sem]) rfl ⟨?_, B1.out⟩
           rw [G.out]
           rfl
          ·have hlen : (putN (numN n)).length = 0 := putN_none.2 (fun h => hn4 ((numN_in n0).1 h))
           have G : Hid (getN bs A = none) := by show _ = _; rw [ST.out hy, if_neg (fun h => hn4 h.2)]
           generalize (putN (numN n)).length = L at *
           subst hlen
           go_wp2
           refine bodyPost_ret (v := .tuple #[.int .i64 0, .int .i64 0, .bool false]) (by simp [results, Try.results66, go_sem]) rfl ⟨?_, B1.out⟩
           rw [G.out]
           rfl
        ·have hod : (n % 2 == 1) = false := by simp [ho]
         have EX : Hid (n / 2 = numN n) := (numN_even ho).symm
         clear ho
         by_cases hz : y = 0
         ·have G : Hid (getN bs A = none) := by show _ = _; rw [ST.out hy, if_neg (by rintro ⟨h | h, _⟩ <;> omega)]
          have hyd : (y == 0) = true := by simp [hz]
          clear hz
          go_wp2
          refine bodyPost_ret (v := .tuple #[.int .i64 0, .int .i64 0, .bool false]) (by simp [results, Try.results66, go_sem]) rfl ⟨?_, BB.out⟩
          rw [G.out]
          rfl
         ·have HOR : 0 < y ∨ (16384 : Int) = 1 := .inl (by omega)
          have hyd : (y == 0) = false := by simp [hz]
          clear hz
          go_wp2_with fail
          refine (specPutNum_any _ _).mono ?_
          rintro e w1 ⟨v1, rfl, o1, b1⟩
          obtain ⟨a1, q1, rfl, _, hq1⟩ := owns_shape o1
          rw [EX.out] at *
          clear o1
          have B1 : Hid (Below w.heap.size w w1) := Below.and BB.out b1
          clear b1
          by_cases hn4 : n ≤ 4000000000
          ·have hlen : 0 < (putN (numN n)).length := by
            rcases Nat.eq_zero_or_pos (putN (numN n)).length with h | h
            ·exact absurd ((numN_in n0).2 hn4) (putN_none.1 h)
            ·exact h
           have hle := putN_length (numN n)
           have G : Hid (getN bs A = some (numN n, (A : Int) + 2 + 1)) := by show _ = _; rw [ST.out hy, if_pos ⟨HOR, hn4⟩]; simp
           generalize (putN (numN n)).length = L at *
           have hL : ((L : Int) == 0) = false := by simp; omega
           go_wp2
           refine bodyPost_ret (v := .tuple #[.int .i64 (numN n), .int .i64 ((A : Int) + 2 + 1), .bool true]) (by simp [results, Try.results66, go_sem]) rfl ⟨?_, B1.out⟩
           rw [G.out]
           rfl
          ·have hlen : (putN (numN n)).length = 0 := putN_none.2 (fun h => hn4 ((numN_in n0).1 h))
           have G : Hid (getN bs A = none) := by show _ = _; rw [ST.out hy, if_neg (fun h => hn4 h.2)]
           generalize (putN (numN n)).length = L at *
           subst hlen
           go_wp2
           refine bodyPost_ret (v := .tuple #[.int .i64 0, .int .i64 0, .bool false]) (by simp [results, Try.results66, go_sem]) rfl ⟨?_, B1.out⟩
           rw [G.out]
           rfl
       ·have SS : Hid _ := SP.out (by omega)
        go_wp2
        go_roundw
        case rel => exact ⟨3, n, rfl, by go_num, by have := SS.out; exact this, BB.out⟩
        case measure => simp [intOf]
      ·have e0 : unitN 3 = 2097152 := rfl
       rw [e0] at ST SP hc1
       clear hj hR hj5 e0
       have hJ' : J = 3 := by simpa using hJ
       rw [show (((3 : Nat)) : Int) = 3 from rfl] at hJ
       clear hJ
       subst hJ'
       have e2 : y % 128 * 2097152 = y % 128 * 2097152 := by omega
       rw [e2] at ST SP
       have hOr0 := or_low 21 (by decide) c (y % 128) hc0 (by omega) (by omega) (by omega)
       have e3 : y % 128 * 2 ^ 21 = y % 128 * 2097152 := by omega
       rw [e3] at hOr0
       clear e2 e3
       have n0 : 0 ≤ c + y % 128 * 2097152 := by omega
       have n1 : c + y % 128 * 2097152 ≤ 4400000000000 := by omega
       generalize c + y % 128 * 2097152 = n at *
       by_cases hy : y < 128
       ·by_cases ho : n % 2 = 1
        ·have hod : (n % 2 == 1) = true := by simp [ho]
         have EX : Hid (-(n / 2) - 1 = numN n) := by show _ = _; rw [numN_odd ho]; omega
         clear ho
         by_cases hz : y = 0
         ·have G : Hid (getN bs A = none) := by show _ = _; rw [ST.out hy, if_neg (by rintro ⟨h | h, _⟩ <;> omega)]
          have hyd : (y == 0) = true := by simp [hz]
          clear hz
          go_wp2
          refine bodyPost_ret (v := .tuple #[.int .i64 0, .int .i64 0, .bool false]) (by simp [results, Try.results66, go_sem]) rfl ⟨?_, BB.out⟩
          rw [G.out]
          rfl
         ·have HOR : 0 < y ∨ (2097152 : Int) = 1 := .inl (by omega)
          have hyd : (y == 0) = false := by simp [hz]
          clear hz
          go_wp2_with fail
          refine (specPutNum_any _ _).mono ?_
          rintro e w1 ⟨v1, rfl, o1, b1⟩
          obtain ⟨a1, q1, rfl, _, hq1⟩ := owns_shape o1
          rw [EX.out] at *
          clear o1
          have B1 : Hid (Below w.heap.size w w1) := Below.and BB.out b1
          clear b1
          by_cases hn4 : n ≤ 4000000000
          ·have hlen : 0 < (putN (numN n)).length := by
            rcases Nat.eq_zero_or_pos (putN (numN n)).length with h | h
            ·exact absurd ((numN_in n0).2 hn4) (putN_none.1 h)
            ·exact h
           have hle := putN_length (numN n)
           have G : Hid (getN bs A = some (numN n, (A : Int) + 3 + 1)) := by show _ = _; rw [ST.out hy, if_pos ⟨HOR, hn4⟩]; simp
           generalize (putN (numN n)).length = L at *
           have hL : ((L : Int) == 0) = false := by simp; omega
           go_wp2
           refine bodyPost_ret (v := .tuple #[.int .i64 (numN n), .int .i64 ((A : Int) + 3 + 1), .bool true]) (by simp [results, Try.results66, go_sem]) rfl ⟨?_, B1.out⟩
           rw [G.out]
           rfl
          ·have hlen : (putN (numN n)).length = 0 := putN_none.2 (fun h => hn4 ((numN_in n0).1 h))
           have G : Hid (getN bs A = none) := by show _ = _; rw [ST.out hy, if_neg (fun h => hn4 h.2)]
           generalize (putN (numN n)).length = L at *
           subst hlen
           go_wp2
           refine bodyPost_ret (v := .tuple #[.int .i64 0, .int .i64 0, .bool false]) (by simp [results, Try.results66, go_sem]) rfl ⟨?_, B1.out⟩
           rw [G.out]
           rfl
        ·have hod : (n % 2 == 1) = false := by simp [ho]
         have EX : Hid (n / 2 = numN n) := (numN_even ho).symm
         clear ho
         by_cases hz : y = 0
         ·have G : Hid (getN bs A = none) := by show _ = _; rw [ST.out hy, if_neg (by rintro ⟨h | h, _⟩ <;> omega)]
          have hyd : (y == 0) = true := by simp [hz]
          clear hz
          go_wp2
          refine bodyPost_ret (v := .tuple #[.int .i64 0, .int .i64 0, .bool false]) (by simp [results, Try.results66, go_sem]) rfl ⟨?_, BB.out⟩
          rw [G.out]
          rfl
         ·have HOR : 0 < y ∨ (2097152 : Int) = 1 := .inl (by omega)
          have hyd : (y == 0) = false := by simp [hz]
          clear hz
          go_wp2_with fail
          refine (specPutNum_any _ _).mono ?_
          rintro e w1 ⟨v1, rfl, o1, b1⟩
          obtain ⟨a1, q1, rfl, _, hq1⟩ := owns_shape o1
          rw [EX.out] at *
          clear o1
          have B1 : Hid (Below w.heap.size w w1) := Below.and BB.out b1
          clear b1
          by_cases hn4 : n ≤ 4000000000
          ·have hlen : 0 < (putN (numN n)).length := by
            rcases Nat.eq_zero_or_pos (putN (numN n)).length with h | h
            ·exact absurd ((numN_in n0).2 hn4) (putN_none.1 h)
            ·exact h
           have hle := putN_length (numN n)
           have G : Hid (getN bs A = some (numN n, (A : Int) + 3 + 1)) := by show _ = _; rw [ST.out hy, if_pos ⟨HOR, hn4⟩]; simp
           generalize (putN (numN n)).length = L at *
           have hL : ((L : Int) == 0) = false := by simp; omega
           go_wp2
           refine bodyPost_ret (v := .tuple #[.int .i64 (numN n), .int .i64 ((A : Int) + 3 + 1), .bool true]) (by simp [results, Try.results66, go_sem]) rfl ⟨?_, B1.out⟩
           rw [G.out]
           rfl
          ·have hlen : (putN (numN n)).length = 0 := putN_none.2 (fun h => hn4 ((numN_in n0).1 h))
           have G : Hid (getN bs A = none) := by show _ = _; rw [ST.out hy, if_neg (fun h => hn4 h.2)]
           generalize (putN (numN n)).length = L at *
           subst hlen
           go_wp2
           refine bodyPost_ret (v := .tuple #[.int .i64 0, .int .i64 0, .bool false]) (by simp [results, Try.results66, go_sem]) rfl ⟨?_, B1.out⟩
           rw [G.out]
           rfl
       ·have SS : Hid _ := SP.out (by omega)
        go_wp2
        go_roundw
        case rel => exact ⟨4, n, rfl, by go_num, by have := SS.out; exact this, BB.out⟩
        case measure => simp [intOf]
      ·have e0 : unitN 4 = 268435456 := rfl
       rw [e0] at ST SP hc1
       clear hj hR hj5 e0
       have hJ' : J = 4 := by simpa using hJ
       rw [show (((4 : Nat)) : Int) = 4 from rfl] at hJ
       clear hJ
       subst hJ'
       have e2 : y % 128 * 268435456 = y % 128 * 268435456 := by omega
       rw [e2] at ST SP
       have hOr0 := or_low 28 (by decide) c (y % 128) hc0 (by omega) (by omega) (by omega)
       have e3 : y % 128 * 2 ^ 28 = y % 128 * 268435456 := by omega
       rw [e3] at hOr0
       clear e2 e3
       have n0 : 0 ≤ c + y % 128 * 268435456 := by omega
       have n1 : c + y % 128 * 268435456 ≤ 4400000000000 := by omega
       generalize c + y % 128 * 268435456 = n at *
       by_cases hy : y < 128
       ·by_cases ho : n % 2 = 1
        ·have hod : (n % 2 == 1) = true := by simp [ho]
         have EX : Hid (-(n / 2) - 1 = numN n) := by show _ = _; rw [numN_odd ho]; omega
         clear ho
         by_cases hz : y = 0
         ·have G : Hid (getN bs A = none) := by show _ = _; rw [ST.out hy, if_neg (by rintro ⟨h | h, _⟩ <;> omega)]
          have hyd : (y == 0) = true := by simp [hz]
          clear hz
          go_wp2
          refine bodyPost_ret (v := .tuple #[.int .i64 0, .int .i64 0, .bool false]) (by simp [results, Try.results66, go_sem]) rfl ⟨?_, BB.out⟩
          rw [G.out]
          rfl
         ·have HOR : 0 < y ∨ (268435456 : Int) = 1 := .inl (by omega)
          have hyd : (y == 0) = false := by simp [hz]
          clear hz
          go_wp2_with fail
          refine (specPutNum_any _ _).mono ?_
          rintro e w1 ⟨v1, rfl, o1, b1⟩
          obtain ⟨a1, q1, rfl, _, hq1⟩ := owns_shape o1
          rw [EX.out] at *
          clear o1
          have B1 : Hid (Below w.heap.size w w1) := Below.and BB.out b1
          clear b1
          by_cases hn4 : n ≤ 4000000000
          ·have hlen : 0 < (putN (numN n)).length := by
            rcases Nat.eq_zero_or_pos (putN (numN n)).length with h | h
            ·exact absurd ((numN_in n0).2 hn4) (putN_none.1 h)
            ·exact h
           have hle := putN_length (numN n)
           have G : Hid (getN bs A = some (numN n, (A : Int) + 4 + 1)) := by show _ = _; rw [ST.out hy, if_pos ⟨HOR, hn4⟩]; simp
           generalize (putN (numN n)).length = L at *
           have hL : ((L : Int) == 0) = false := by simp; omega
           go_wp2
           refine bodyPost_ret (v := .tuple #[.int .i64 (numN n), .int .i64 ((A : Int) + 4 + 1), .bool true]) (by simp [results, Try.results66, go_sem]) rfl ⟨?_, B1.out⟩
           rw [G.out]
           rfl
          ·have hlen : (putN (numN n)).length = 0 := putN_none.2 (fun h => hn4 ((numN_in n0).1 h))
           have G : Hid (getN bs A = none) := by show _ = _; rw [ST.out hy, if_neg (fun h => hn4 h.2)]
           generalize (putN (numN n)).length = L at *
           subst hlen
           go_wp2
           refine bodyPost_ret (v := .tuple #[.int .i64 0, .int .i64 0, .bool false]) (by simp [results, Try.results66, go_sem]) rfl ⟨?_, B1.out⟩
           rw [G.out]
           rfl
        ·have hod : (n % 2 == 1) = false := by simp [ho]
         have EX : Hid (n / 2 = numN n) := (numN_even ho).symm
         clear ho
         by_cases hz : y = 0
         ·have G : Hid (getN bs A = none) := by show _ = _; rw [ST.out hy, if_neg (by rintro ⟨h | h, _⟩ <;> omega)]
          have hyd : (y == 0) = true := by simp [hz]
          clear hz
          go_wp2
          refine bodyPost_ret (v := .tuple #[.int .i64 0, .int .i64 0, .bool false]) (by simp [results, Try.results66, go_sem]) rfl ⟨?_, BB.out⟩
          rw [G.out]
          rfl
         ·have HOR : 0 < y ∨ (268435456 : Int) = 1 := .inl (by omega)
          have hyd : (y == 0) = false := by simp [hz]
          clear hz
          go_wp2_with fail
          refine (specPutNum_any _ _).mono ?_
          rintro e w1 ⟨v1, rfl, o1, b1⟩
          obtain ⟨a1, q1, rfl, _, hq1⟩ := owns_shape o1
          rw [EX.out] at *
          clear o1
          have B1 : Hid (Below w.heap.size w w1) := Below.and BB.out b1
          clear b1
          by_cases hn4 : n ≤ 4000000000
          ·have hlen : 0 < (putN (numN n)).length := by
            rcases Nat.eq_zero_or_pos (putN (numN n)).length with h | h
            ·exact absurd ((numN_in n0).2 hn4) (putN_none.1 h)
            ·exact h
           have hle := putN_length (numN n)
           have G : Hid (getN bs A = some (numN n, (A : Int) + 4 + 1)) := by show _ = _; rw [ST.out hy, if_pos ⟨HOR, hn4⟩]; simp
           generalize (putN (numN n)).length = L at *
           have hL : ((L : Int) == 0) = false := by simp; omega
           go_wp2
           refine bodyPost_ret (v := .tuple #[.int .i64 (numN n), .int .i64 ((A : Int) + 4 + 1), .bool true]) (by simp [results, Try.results66, go_sem]) rfl ⟨?_, B1.out⟩
           rw [G.out]
           rfl
          ·have hlen : (putN (numN n)).length = 0 := putN_none.2 (fun h => hn4 ((numN_in n0).1 h))
           have G : Hid (getN bs A = none) := by show _ = _; rw [ST.out hy, if_neg (fun h => hn4 h.2)]
           generalize (putN (numN n)).length = L at *
           subst hlen
           go_wp2
           refine bodyPost_ret (v := .tuple #[.int .i64 0, .int .i64 0, .bool false]) (by simp [results, Try.results66, go_sem]) rfl ⟨?_, B1.out⟩
           rw [G.out]
           rfl
       ·have SS : Hid _ := SP.out (by omega)
        go_wp2
        go_roundw
        case rel => exact ⟨5, n, rfl, by go_num, by have := SS.out; exact this, BB.out⟩
        case measure => simp [intOf]
     ·have G : Hid (getN bs A = none) := hR.over (.inr (fun h => HIN h.2))
      clear hk
      have hle : bs.length ≤ A + j := by omega
      clear HIN hR
      go_wp2
      refine bodyPost_ret (v := .tuple #[.int .i64 0, .int .i64 0, .bool false]) (by simp [results, Try.results66, go_sem]) rfl ⟨?_, BB.out⟩
      rw [G.out]
      rfl
    ·have G : Hid (getN bs A = none) := hR.over (.inl (by omega))
     clear hk
     go_wp2
     refine bodyPost_ret (v := .tuple #[.int .i64 0, .int .i64 0, .bool false]) (by simp [results, Try.results66, go_sem]) rfl ⟨?_, BB.out⟩
     rw [G.out]
     rfl
  ·have G : Hid (getN bs A = none) := (Reading.start bs A).over (.inr (by simp; omega))
   clear hk ha
   go_enter Try.func66, Try.ntmps66
   go_wp2
   refine bodyPost_ret (v := .tuple #[.int .i64 0, .int .i64 0, .bool false]) (by simp [results, Try.results66, go_sem]) rfl ⟨?_, Below.refl _ _⟩
   rw [G.out]
   rfl
 ·have G : Hid (getN bs at_ = none) := (Reading.start bs at_).over (.inr (by simp; omega))
  clear hk ha
  go_enter Try.func66, Try.ntmps66
  go_wp2
  refine bodyPost_ret (v := .tuple #[.int .i64 0, .int .i64 0, .bool false]) (by simp [results, Try.results66, go_sem]) rfl ⟨?_, Below.refl _ _⟩
  rw [G.out]
  rfl
end
end Go.Proofs.Ytekcnibohikmdaa
