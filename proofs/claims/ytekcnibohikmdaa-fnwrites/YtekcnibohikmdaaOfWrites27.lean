/-
  The contract of the model's l4Most.
-/
import Derived.Test.YtekcnibohikmdaaOfWrites9
namespace Go.Proofs.Ytekcnibohikmdaa
set_option maxRecDepth 100000
set_option maxHeartbeats 8000000
section
open Go.RowKit

theorem l4Most_any (a1 : Option Addr) (n1 q1 : Nat) (vc vb : Value) (cs : List Int) (buf : ML) (w : World) (hc : Row w vc cs.length (flatI cs)) (hb : Row w vb buf.length (flatM buf)) (hn : buf.length ≤ 2097152) (h1 : n1 ≤ 2097152) :
  Calls Try.prog 61 #[.agg #[.slice a1 n1 q1, vc], vb] w fun e w' => e = .returned (.int .i64 ((mostTo cs buf n1).1 : Nat)) ∧ Below w.heap.size w w' := by
 have HC : Hid (∀ (i : Nat) (w1 : World), Below w.heap.size w w1 → Calls Try.prog 62 #[.agg #[.slice a1 n1 q1, vc], vb, .int .i64 (i : Nat)] w1 fun e w' => ∃ v1 v2, e = .returned (.tuple #[v1, v2]) ∧ w'.ownsRow w1.heap.size 73 3 v1 (mineF cs i buf).length (flatM (mineF cs i buf)) ∧ w'.ownsRow w1.heap.size 73 3 v2 (restF cs i buf).length (flatM (restF cs i buf)) ∧ Below w1.heap.size w1 w') :=
  fun i w1 h => l4Split_any a1 n1 q1 vc vb cs buf i w1 (hc.below h) (hb.below h) hn
 obtain ⟨a2, q2, rfl, hmax2⟩ := hc.len
 obtain ⟨a4, q4, rfl, hmax4⟩ := hb.len
 clear hc hb hmax2 hmax4
 have LO : Hid (∀ k, -1 ≤ (mostTo cs buf k).2 ∧ (mostTo cs buf k).2 ≤ buf.length ∧ (mostTo cs buf k).1 ≤ k) := fun k => mostTo_lo cs buf k
 have ST : Hid (∀ k, mostTo cs buf (k + 1) = if (mostTo cs buf k).2 < ((mineF cs k buf).length : Int) then (k, ((mineF cs k buf).length : Int)) else mostTo cs buf k) := fun k => rfl
 have Z0 : Hid (mostTo cs buf 0 = (0, -1)) := rfl
 have ML1 : Hid (∀ k, (mineF cs k buf).length ≤ 2097152) := fun k => Nat.le_trans (mineF_length _ _ _) hn
 have B0 : Hid _ := bel_boxM w #[.slice a1 n1 q1, .slice a2 cs.length q2]
 have S0 : Hid (BoxM _ w.heap.size _) := BoxM.start w #[.slice a1 n1 q1, .slice a2 cs.length q2]
 generalize mostTo cs buf = mo at *
 go_enter Try.func61, Try.ntmps61
 go_wp2
 go_loopw [5, 6, 7] (fun b m i wr => ∃ j : Nat, j ≤ n1 ∧ i = .int .i64 j ∧ b = .int .i64 ((mo j).1 : Nat) ∧ m = .int .i64 (mo j).2 ∧ Hid (BoxM wr w.heap.size #[.slice a1 n1 q1, .slice a2 cs.length q2]) ∧ Hid (Below w.heap.size w wr))
  (fun _ _ i _ => n1 - (intOf i).toNat)
 case atStart => exact ⟨0, Nat.zero_le _, rfl, by rw [Z0.out]; rfl, by rw [Z0.out], S0, B0⟩
 case round =>
  obtain ⟨j, hj, rfl, rfl, rfl, SN, BN⟩ := hrel
  clear S0 B0
  obtain ⟨c0, c1⟩ := SN.out.two
  by_cases hlt : j < n1
  ·have HC1 : Hid _ := HC.out j wr BN.out
   have ST1 : Hid _ := ST.out j
   have LO1 := LO.out j
   have LM := ML1.out j
   generalize mineF cs j buf = MM at *
   generalize restF cs j buf = RR at *
   clear HC ST ML1
   go_wp2_with fail
   refine Calls.mono HC1.out ?_
   rintro e w2 ⟨v1, v2, rfl, o1, o2, hb2⟩
   have B2 : Hid (Below w.heap.size w w2) := Below.and BN.out hb2
   have S2 : Hid (BoxM w2 w.heap.size #[.slice a1 n1 q1, .slice a2 cs.length q2]) := SN.out.step hb2 SN.out.lt
   obtain ⟨a5, q5, rfl, _⟩ := (Row.of_owns o1).len
   obtain ⟨a6, q6, rfl, _⟩ := (Row.of_owns o2).len
   clear o1 o2 hb2 SN BN HC1 c0 c1
   generalize hl : MM.length = L at *
   by_cases hq : (mo j).2 < (L : Int)
   ·have E : Hid (mo (j + 1) = (j, (L : Int))) := ST1.out.trans (if_pos hq)
    clear ST1
    go_wp2
    go_roundw
    case rel => exact ⟨j + 1, by omega, by go_num, by rw [E.out], by rw [E.out], S2, B2⟩
    case measure => simp [intOf]; omega
   ·have E : Hid (mo (j + 1) = mo j) := ST1.out.trans (if_neg hq)
    clear ST1
    go_wp2
    go_roundw
    case rel => exact ⟨j + 1, by omega, by go_num, by rw [E.out], by rw [E.out], S2, B2⟩
    case measure => simp [intOf]; omega
  ·have hjj : j = n1 := by omega
   subst hjj
   go_wp2
   go_ret
   exact ⟨rfl, BN.out⟩
end
end Go.Proofs.Ytekcnibohikmdaa
