/-
  The walk of the law FnExactGetNum.
-/
import Derived.Test.YtfedeljadckjiaaDoorGetNum
import Derived.Test.YtfedeljadckjiaaDoorToByte
namespace Go.Proofs.YtfedeljadckjiaaDoor
open Go.RowKit

set_option maxRecDepth 100000 in
set_option maxHeartbeats 4000000 in
theorem fnExactGetNum_any (ea : Addr) (v : Value) (l : List Int) (k : Int) (w : World) (h : Row w v l.length (flatB l)) (hl : inByte l) (he : ErrIs ea w) :
    Calls Tryd.prog 5 #[v, .int .i64 k] w fun e w' => e = .returned (.bool true) ∧ Below w.heap.size w w' := by
  obtain ⟨a, b, off, cap, hv, hcap, hmax, _⟩ := h.bytes
  unfold maxLen at hmax
  by_cases hbig : l.length ≤ 1048576
  · have RA : Hid (Row w v l.length (flatB l) ∧ inByte l ∧ ErrIs ea w) := ⟨h, hl, he⟩
    clear h hl he
    rw [hv] at RA ⊢
    clear hv
    generalize hG : getN l k = G
    have HG : Hid _ := hG
    clear hG
    have hgt : ∃ (x p : Int) (o : Bool), gotN G = .tuple #[.int .i64 x, .int .i64 p, .bool o] := by
      cases G with
      | none => exact ⟨0, 0, false, rfl⟩
      | some q => exact ⟨q.1, q.2, true, rfl⟩
    obtain ⟨gx, gp, go, hgo⟩ := hgt
    have HGO : Hid _ := hgo
    clear hgo
    go_enter Tryd.func5, Tryd.ntmps5
    go_wp2_with fail
    refine (toByteS_any _ l _ RA.out.1 hbig).mono ?_
    rintro e w1 ⟨v1, rfl, o1, b1⟩
    have R1 := Row.of_owns o1
    have B1 : Hid _ := b1
    clear o1 b1
    go_wp2_with fail
    refine (specGetNum_any _ l _ _ R1 RA.out.2.1 (by omega)).mono ?_
    rintro e w2 ⟨rfl, b2⟩
    rw [HG.out, HGO.out]
    have B2 : Hid (Below w.heap.size w w2) := Below.and B1.out b2
    clear b2 R1 B1
    go_wp2_with fail
    refine (toByteS_any _ l _ (RA.out.1.below B2.out) hbig).mono ?_
    rintro e w3 ⟨v3, rfl, o3, b3⟩
    have B3 : Hid (Below w.heap.size w w3) := Below.and B2.out b3
    have R3 : Hid (Row w3 v3 l.length (flatB l)) := Row.of_owns o3
    clear o3 b3 B2
    go_wp2_with fail
    refine (implGetNum_any ea _ l _ _ R3.out RA.out.2.1 (RA.out.2.2.below B3.out)).mono ?_
    rintro e w4 ⟨rfl, b4⟩
    rw [HG.out, HGO.out]
    have B4 : Hid (Below w.heap.size w w4) := Below.and B3.out b4
    have R4 : Hid (Row w4 v3 l.length (flatB l)) := R3.out.below b4
    clear b4
    have q1 : (gx != gx) = false := by simp
    have q2 : (gp != gp) = false := by simp
    have q3 : (go != go) = false := by simp
    go_wp2_with fail
    refine (toByteS_any _ l _ (RA.out.1.below B4.out) hbig).mono ?_
    rintro e w5 ⟨v5, rfl, o5, b5⟩
    have R5 := Row.of_owns o5
    have R45 := R4.out.below b5
    have B5 : Hid (Below w.heap.size w w5) := Below.and B4.out b5
    clear o5 b5
    go_wp2_with fail
    refine (eqByteS_any _ _ l l _ R45 R5).mono ?_
    rintro e w6 ⟨rfl, b6⟩
    have B6 : Hid (Below w.heap.size w w6) := Below.and B5.out b6
    clear b6 R5 R45
    go_wp2
    go_ret
    exact ⟨rfl, B6.out⟩
  · rw [hv]
    clear h hv
    go_enter Tryd.func5, Tryd.ntmps5
    go_wp2
    go_ret
    exact ⟨rfl, Below.refl _ _⟩

end Go.Proofs.YtfedeljadckjiaaDoor
