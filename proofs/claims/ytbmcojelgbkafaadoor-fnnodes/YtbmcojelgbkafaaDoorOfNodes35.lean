/-
  The program's reader: a number.
-/
import Derived.Test.YtbmcojelgbkafaaDoorOfNodes34
namespace Go.Proofs.YtbmcojelgbkafaaDoor
set_option maxRecDepth 100000
set_option maxHeartbeats 8000000
section
open Go.RowKit

theorem numOf_any (c : Int) (h0 : 0 ≤ c) (h1 : c ≤ 4000000000) (w : World) :
  Calls Tryd.prog 46 #[.int .i64 c] w fun e w' => e = .returned (.int .i64 (numN c)) ∧ w = w' := by
 by_cases h : c % 2 = 1
 ·have E : Hid (numN c = -((c + 1) / 2)) := by show _ = _; simp [numN, h]
  have E2 : Hid ((c + 1).tdiv 2 = (c + 1) / 2) := Int.tdiv_eq_ediv_of_nonneg (by omega)
  have hq : (c % 2 == 1) = true := by simp [h]
  clear h
  go_enter Tryd.func46, Tryd.ntmps46
  go_wp2
  go_ret
  refine ⟨ret_int ?_, rfl⟩
  rw [E.out]
  unfold wrap64
  rw [E2.out]
  omega
 ·have E : Hid (numN c = c / 2) := numN_even h
  have hq : (c % 2 == 1) = false := by simp [h]
  clear h
  go_enter Tryd.func46, Tryd.ntmps46
  go_wp2
  go_ret
  exact ⟨ret_int E.out.symm, rfl⟩

def NumPost (ea : Addr) (P : Nat) (g : Option (Int × Int)) (e : Ending) (w' : World) : Prop := match g with
 | some (x, p) => e = .returned (.int .i64 x) ∧ PlaceIs w' P p
 | none => e = .panicked (boom ea)

theorem box_cell {F : Nat → Prop} {W wr : World} {B j : Nat} {A : Array Value} {t : TypeId} (h : W.heap[B]? = some (.cells A t (0, 0))) (hc : Chg F W wr) (hF : ¬ F B) : wr.cell? ⟨B, j, none⟩ = A[j]? := cell_of_cells (row_chg h hc hF)

theorem num_any (ea : Addr) (v : Value) (bs : List Int) (P : Nat) (at_ : Int) (w : World) (hr : Row w v bs.length (flatB bs)) (hbs : inByte bs) (hp : PlaceIs w P at_) (he : ErrIs ea w) (hP : P ≠ 0) :
  Calls Tryd.prog 35 #[.agg #[v, .pointer (some ⟨P, 0, none⟩)]] w fun e w' => NumPost ea P (getN bs at_) e w' ∧ Chg (fun g => g = P) w w' := by
 have hlt := hp.lt
 have b0 : Below w.heap.size w (w.alloc (.cells #[v, .pointer (some ⟨P, 0, none⟩)] 48)) := (Below.refl _ _).alloc (Nat.le_refl _) _
 have hp1 := hp.below b0
 have he1 := he.below b0
 have hr1 := hr.below b0
 have hn := heap_alloc_new w (.cells #[v, .pointer (some ⟨P, 0, none⟩)] 48)
 have HH : Hid _ := And.intro hr1 (And.intro hp1 (And.intro he1 (And.intro hn b0)))
 have hne : ¬ w.heap.size = P := by omega
 clear hr hp he b0 hp1 he1 hr1 hn
 go_enter Tryd.func35, Tryd.ntmps35
 go_wp2_with fail
 generalize w.alloc (.cells #[v, .pointer (some ⟨P, 0, none⟩)] 48) = W at *
 go_loopw [3, 4] (fun c u wr => ∃ (j : Nat) (cc uu : Int), c = .int .i64 cc ∧ u = .int .i64 uu ∧ Reading bs at_ j uu cc ∧ PlaceIs wr P (at_ + j) ∧ Chg (fun g => g = P) W wr)
  (fun _ u _ => (34359738368 - intOf u).toNat)
 case atStart => exact ⟨0, 0, 1, rfl, rfl, Reading.start bs at_, by simpa using HH.out.2.1, Chg.refl _ _⟩
 case round =>
  obtain ⟨j, c, u, rfl, rfl, hR, hpl, hch⟩ := hrel
  have hu := unitN_in hR.le
  rw [← hR.unit] at hu
  obtain ⟨u1, u2, u3, u4⟩ := hu
  have cl := hR.low
  have cx := hR.high
  have c0 : wr.cell? ⟨w.heap.size, 0, none⟩ = some v := by rw [box_cell HH.out.2.2.2.1 hch hne]; rfl
  have c1 : wr.cell? ⟨w.heap.size, 1, none⟩ = some (.pointer (some ⟨P, 0, none⟩)) := by rw [box_cell HH.out.2.2.2.1 hch hne]; rfl
  have hrow : Row wr v bs.length (flatB bs) := HH.out.1.apart HH.out.2.1 hch
  have herr : ErrIs ea wr := HH.out.2.2.1.apart hch hP
  have I : Hid _ := And.intro hR (And.intro hpl (And.intro hch (And.intro hrow herr)))
  clear hR hpl hch hrow herr
  by_cases hu5 : u ≤ 4000000000
  ·have hj5 := u3.1 hu5
   clear u3
   go_wp2_with fail
   by_cases hin : 0 ≤ at_ + j ∧ at_ + j < bs.length
   ·have h0 : 0 ≤ at_ := Reading.pos' hin.1 I.out.1.pos
    have ek : at_ + j = ((at_.toNat + j : Nat) : Int) := by omega
    have hpl : PlaceIs wr P ((at_.toNat + j : Nat) : Int) := by rw [← ek]; exact I.out.2.1
    have hbb := hbs.at (at_.toNat + j)
    refine (next_ok v bs P (at_.toNat + j) _ I.out.2.2.2.1 hbs hpl (by omega)).mono ?_
    rintro e w1 ⟨rfl, hp1, ch1⟩
    generalize hbv : byOf bs (at_.toNat + j) = b at *
    have hp2 : PlaceIs w1 P (at_ + j + 1) := by rw [ek]; exact hp1
    have hcw : Chg (fun g => g = P) w w1 := ((Chg.of_below (F := fun g => g = P) HH.out.2.2.2.2).trans I.out.2.2.1 (fun _ _ h => h)).trans ch1 (fun _ _ h => h)
    have J : Hid (PlaceIs w1 P (at_ + j + 1) ∧ Chg (fun g => g = P) w w1) := ⟨hp2, hcw⟩
    have J2 : Hid (ErrIs ea w1) := I.out.2.2.2.2.apart ch1 hP
    have J3 : Hid (Chg (fun g => g = P) W w1) := I.out.2.2.1.trans ch1 (fun _ _ h => h)
    have hm := mul_in (b := b) u1
    obtain ⟨hm0, hm1⟩ := hm
    obtain ⟨hb0, hb1⟩ := hbb
    have I1 : Hid (Reading bs at_ j u c) := I.out.1
    have HB : Hid (b = byOf bs (at_.toNat + j)) := hbv.symm
    have HL : Hid (at_ + j < bs.length) := hin.2
    clear hpl hp1 ch1 hp2 hcw hbv I c0 c1 ek hin
    by_cases hb : b < 128
    ·have ST := I1.out.stop hj5 h0 HL.out HB.out hb
     by_cases hz : 0 < b
     ·have HOR : 0 < b ∨ u = 1 := .inl hz
      by_cases hc : c + b % 128 * u ≤ 4000000000
      ·have G : getN bs at_ = some (numN (c + b % 128 * u), at_ + j + 1) := by rw [ST, if_pos ⟨HOR, hc⟩]
       have GG : Hid _ := G
       clear G ST
       have z0 : 0 ≤ c + b % 128 * u := by omega
       go_wp2_with fail
       refine (demand_true _).mono ?_
       rintro e w2 ⟨rfl, rfl⟩
       go_wp2_with fail
       refine (demand_true _).mono ?_
       rintro e w2 ⟨rfl, rfl⟩
       go_wp2_with fail
       refine (numOf_any _ z0 hc _).mono ?_
       rintro e w2 ⟨rfl, rfl⟩
       go_wp2
       rw [GG.out]
       go_ret
       exact ⟨⟨rfl, by exact J.out.1⟩, J.out.2⟩
      ·have G : getN bs at_ = none := by rw [ST, if_neg (fun h => hc h.2)]
       have GG : Hid _ := G
       have hcd : decide (c + b % 128 * u ≤ 4000000000) = false := decide_eq_false hc
       clear G ST
       go_wp2_with fail
       refine (demand_true _).mono ?_
       rintro e w2 ⟨rfl, rfl⟩
       go_wp2_with fail
       refine (demand_false ea _ J2.out).mono ?_
       rintro e w2 ⟨rfl, rfl⟩
       go_wp2
       rw [GG.out]
       exact ⟨rfl, rfl, J.out.2⟩
     ·have hz0 : decide (0 < b) = false := decide_eq_false hz
      by_cases hu1 : u = 1
      ·have HOR : 0 < b ∨ u = 1 := .inr hu1
       have hu1d : (u == 1) = true := by simp [hu1]
       clear hu1 u4
       by_cases hc : c + b % 128 * u ≤ 4000000000
       ·have G : getN bs at_ = some (numN (c + b % 128 * u), at_ + j + 1) := by rw [ST, if_pos ⟨HOR, hc⟩]
        have GG : Hid _ := G
        clear G ST
        have z0 : 0 ≤ c + b % 128 * u := by omega
        go_wp2_with fail
        refine (demand_true _).mono ?_
        rintro e w2 ⟨rfl, rfl⟩
        go_wp2_with fail
        refine (demand_true _).mono ?_
        rintro e w2 ⟨rfl, rfl⟩
        go_wp2_with fail
        refine (numOf_any _ z0 hc _).mono ?_
        rintro e w2 ⟨rfl, rfl⟩
        go_wp2
        rw [GG.out]
        go_ret
        exact ⟨⟨rfl, by exact J.out.1⟩, J.out.2⟩
       ·have G : getN bs at_ = none := by rw [ST, if_neg (fun h => hc h.2)]
        have GG : Hid _ := G
        have hcd : decide (c + b % 128 * u ≤ 4000000000) = false := decide_eq_false hc
        clear G ST
        go_wp2_with fail
        refine (demand_true _).mono ?_
        rintro e w2 ⟨rfl, rfl⟩
        go_wp2_with fail
        refine (demand_false ea _ J2.out).mono ?_
        rintro e w2 ⟨rfl, rfl⟩
        go_wp2
        rw [GG.out]
        exact ⟨rfl, rfl, J.out.2⟩
      ·have G : getN bs at_ = none := by rw [ST, if_neg (by rintro ⟨h | h, _⟩; exact hz h; exact hu1 h)]
       have GG : Hid _ := G
       have hu1d : (u == 1) = false := by simp [hu1]
       clear G ST u4 hz hu1
       go_wp2_with fail
       refine (demand_false ea _ J2.out).mono ?_
       rintro e w2 ⟨rfl, rfl⟩
       go_wp2
       rw [GG.out]
       exact ⟨rfl, rfl, J.out.2⟩
    ·have ST := I1.out.step hj5 h0 HL.out HB.out (by omega)
     have SS : Hid _ := ST
     clear ST
     go_wp2
     go_roundw
     case rel => exact ⟨j + 1, _, _, rfl, rfl, SS.out, by have := J.out.1; rw [Int.add_assoc] at this; exact_mod_cast this, J3.out⟩
     case measure => simp [intOf]; omega
   ·refine (next_bad ea v bs P _ _ I.out.2.2.2.1 I.out.2.2.2.2 I.out.2.1 hin).mono ?_
    rintro e w1 ⟨rfl, b1⟩
    have G := I.out.1.over (.inr hin)
    have GG : Hid _ := G
    clear G
    go_wp2
    rw [GG.out]
    exact ⟨rfl, rfl, ((Chg.of_below (F := fun g => g = P) HH.out.2.2.2.2).trans I.out.2.2.1 (fun _ _ h => h)).trans (Chg.of_below (F := fun g => g = P) b1) (fun _ _ h => h)⟩
  ·have hj5 : j = 5 := by
    have := I.out.1.le
    have := mt u3.2 hu5
    omega
   have G := I.out.1.over (.inl hj5)
   have GG : Hid _ := G
   have hcc : wr.cell? ⟨0, 0, none⟩ = some (.iface 114 (.pointer (some ea))) := I.out.2.2.2.2
   clear G u3 hj5 u4
   go_wp2
   rw [GG.out]
   exact ⟨rfl, rfl, (Chg.of_below (F := fun g => g = P) HH.out.2.2.2.2).trans I.out.2.2.1 (fun _ _ h => h)⟩
end
end Go.Proofs.YtbmcojelgbkafaaDoor
