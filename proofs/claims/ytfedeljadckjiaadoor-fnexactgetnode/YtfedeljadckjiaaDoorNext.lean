/-
  The program's reader: its next byte.
-/
import Derived.Test.YtfedeljadckjiaaDoorDemand
namespace Go.Proofs.YtfedeljadckjiaaDoor
open Go.RowKit

/-- the block P is a variable of type int that holds a -/
def PlaceIs (w : World) (P : Nat) (a : Int) : Prop := w.heap[P]? = some (.cells #[.int .i64 a] 3 (0, 0))
theorem PlaceIs.below {w w' : World} {P : Nat} {a : Int} (h : PlaceIs w P a) (hb : Below w.heap.size w w') : PlaceIs w' P a := by
  unfold PlaceIs at *
  rw [hb.block P (Array.getElem?_eq_some_iff.1 h).1]; exact h
theorem PlaceIs.lt {w : World} {P : Nat} {a : Int} (h : PlaceIs w P a) : P < w.heap.size := (Array.getElem?_eq_some_iff.1 h).1
/-- a row of bytes is none of that variable -/
theorem Row.apart {w w' : World} {P : Nat} {a : Int} {v : Value} {l : List Int} (h : Row w v l.length (flatB l)) (hp : PlaceIs w P a) (hc : Chg (fun g => g = P) w w') : Row w' v l.length (flatB l) := by
  obtain ⟨aa, b, off, cap, h1, h2, h3, h4, h5, h6⟩ := h
  refine ⟨aa, b, off, cap, h1, h2, h3, h4, fun j u hj => ?_, h6⟩
  have hcell := h5 j u hj
  by_cases hb : b = P
  · exfalso
    rw [hb, cell_of_cells hp] at hcell
    simp only [flatB, List.getElem?_map, Option.map_eq_some_iff] at hj
    obtain ⟨z, _, rfl⟩ := hj
    rcases Nat.eq_zero_or_pos (off + j) with h0 | h0
    · rw [h0] at hcell; simp at hcell
    · rw [Array.getElem?_eq_none (by simp; omega)] at hcell; cases hcell
  · have hlt := cell_lt hcell
    have hblk := hc.block b hlt hb
    unfold World.cell? at hcell ⊢
    simp only at hcell ⊢
    rw [hblk]; exact hcell
theorem ErrIs.apart {ea : Addr} {w w' : World} {P : Nat} (h : ErrIs ea w) (hc : Chg (fun g => g = P) w w') (hP : P ≠ 0) : ErrIs ea w' := by
  have hlt := cell_lt h
  have hblk := hc.block 0 hlt (fun e => hP e.symm)
  unfold ErrIs World.cell? at *
  simp only at h ⊢
  rw [hblk]; exact h
theorem PlaceIs.set {w : World} {P : Nat} {a : Int} (h : PlaceIs w P a) (b : Int) : PlaceIs (w.setCell ⟨P, 0, none⟩ (.int .i64 b)) P b := heap_setCell_same w P 0 _ _ _ h

set_option maxRecDepth 100000 in
set_option maxHeartbeats 2000000 in
theorem next_ok (v : Value) (bs : List Int) (P : Nat) (k : Nat) (w : World) (hr : Row w v bs.length (flatB bs)) (hbs : inByte bs) (hp : PlaceIs w P k) (hk : k < bs.length) :
    Calls Tryd.prog 79 #[.agg #[v, .pointer (some ⟨P, 0, none⟩)]] w fun e w' => e = .returned (.int .i64 (byOf bs k)) ∧ PlaceIs w' P (k + 1) ∧ Chg (fun g => g = P) w w' := by
  obtain ⟨a, b, off, cap, rfl, hcap, hmax, ha, hc⟩ := hr.bytes
  unfold maxLen at hmax
  have hal := ha (by omega)
  subst hal
  have hlt := hp.lt
  have hb := hbs.at k
  have hc0 := hc k hk
  have hbl := cell_lt hc0
  generalize byOf bs k = y at hc0 hb ⊢
  obtain ⟨hb0, hb1⟩ := hb
  have b0 : Below w.heap.size w (w.alloc (.cells #[.slice (some ⟨b, off, none⟩) bs.length cap, .pointer (some ⟨P, 0, none⟩)] 69)) := (Below.refl _ _).alloc (Nat.le_refl _) _
  have hp1 := hp.below b0
  have d0 := (b0.cell (p := ⟨b, off + k, none⟩) hbl).trans hc0
  have d1 : (w.alloc (.cells #[.slice (some ⟨b, off, none⟩) bs.length cap, .pointer (some ⟨P, 0, none⟩)] 69)).cell? ⟨P, 0, none⟩ = some (.int .i64 k) := by rw [cell_of_cells hp1]; rfl
  have d2 : (w.alloc (.cells #[.slice (some ⟨b, off, none⟩) bs.length cap, .pointer (some ⟨P, 0, none⟩)] 69)).frozen? ⟨P, 0, none⟩ = false := frozen_of_cells hp1
  have hn := heap_alloc_new w (.cells #[.slice (some ⟨b, off, none⟩) bs.length cap, .pointer (some ⟨P, 0, none⟩)] 69)
  have c0 : (w.alloc (.cells #[.slice (some ⟨b, off, none⟩) bs.length cap, .pointer (some ⟨P, 0, none⟩)] 69)).cell? ⟨w.heap.size, 0, none⟩ = some (.slice (some ⟨b, off, none⟩) bs.length cap) := by rw [cell_of_cells hn]; rfl
  have c1 : (w.alloc (.cells #[.slice (some ⟨b, off, none⟩) bs.length cap, .pointer (some ⟨P, 0, none⟩)] 69)).cell? ⟨w.heap.size, 1, none⟩ = some (.pointer (some ⟨P, 0, none⟩)) := by rw [cell_of_cells hn]; rfl
  have HP : Hid _ := And.intro hp1 b0
  clear hp1 b0 hn hc hc0 ha hr hbs hp
  go_enter Tryd.func79, Tryd.ntmps79
  go_wp2_with fail
  generalize w.alloc (.cells #[.slice (some ⟨b, off, none⟩) bs.length cap, .pointer (some ⟨P, 0, none⟩)] 69) = W at *
  go_region_with (go_at_call 47; refine (demand_true _).mono ?_; rintro e w1 ⟨rfl, rfl⟩)
  all_goals
    go_wp2
    go_region
    all_goals
      go_wp2
      go_ret
      refine ⟨rfl, ?_, ?_⟩
      · exact PlaceIs.set (a := k) (by exact HP.out.1) _
      · exact ((Chg.of_below (F := fun g => g = P) HP.out.2).setAt P 0 rfl _).drew.drew

set_option maxRecDepth 100000 in
set_option maxHeartbeats 2000000 in
theorem next_bad (ea : Addr) (v : Value) (bs : List Int) (P : Nat) (k : Int) (w : World) (hr : Row w v bs.length (flatB bs)) (he : ErrIs ea w) (hp : PlaceIs w P k) (hk : ¬ (0 ≤ k ∧ k < bs.length)) :
    Calls Tryd.prog 79 #[.agg #[v, .pointer (some ⟨P, 0, none⟩)]] w fun e w' => e = .panicked (boom ea) ∧ Below w.heap.size w w' := by
  obtain ⟨a, b, off, cap, rfl, hcap, hmax, ha, hc⟩ := hr.bytes
  unfold maxLen at hmax
  have b0 : Below w.heap.size w (w.alloc (.cells #[.slice a bs.length cap, .pointer (some ⟨P, 0, none⟩)] 69)) := (Below.refl _ _).alloc (Nat.le_refl _) _
  have hp1 := hp.below b0
  have he1 := he.below b0
  have d1 : (w.alloc (.cells #[.slice a bs.length cap, .pointer (some ⟨P, 0, none⟩)] 69)).cell? ⟨P, 0, none⟩ = some (.int .i64 k) := by rw [cell_of_cells hp1]; rfl
  have hn := heap_alloc_new w (.cells #[.slice a bs.length cap, .pointer (some ⟨P, 0, none⟩)] 69)
  have c0 : (w.alloc (.cells #[.slice a bs.length cap, .pointer (some ⟨P, 0, none⟩)] 69)).cell? ⟨w.heap.size, 0, none⟩ = some (.slice a bs.length cap) := by rw [cell_of_cells hn]; rfl
  have c1 : (w.alloc (.cells #[.slice a bs.length cap, .pointer (some ⟨P, 0, none⟩)] 69)).cell? ⟨w.heap.size, 1, none⟩ = some (.pointer (some ⟨P, 0, none⟩)) := by rw [cell_of_cells hn]; rfl
  have HP : Hid _ := And.intro b0 he1
  clear hp1 b0 hn hc ha hr hp he he1
  by_cases h0 : 0 ≤ k
  · have h1 : (bs.length : Int) ≤ k := by omega
    have h2 : decide (k < (bs.length : Int)) = false := decide_eq_false (by omega)
    clear hk
    go_enter Tryd.func79, Tryd.ntmps79
    go_wp2_with fail
    generalize (w.alloc (.cells #[.slice a bs.length cap, .pointer (some ⟨P, 0, none⟩)] 69)) = W at *
    refine wp_region_end [_, _, _, _, _, _, _, _, _, _, _, _, _, _, _] _ rfl (by kernel_rfl) (by kernel_rfl) (by kernel_rfl) ?_
    repeat (quiet_step (fail))
    refine wpQuiet_nil ?_
    rintro _ ⟨nq, rfl⟩
    refine end_call 47 [.tmp 18] #[4] rfl run_demand [.bool false] rfl (demand_false ea _ (by exact HP.out.2.below (below_drewN (Below.refl _ _) nq))) ?_
    rintro e w1 ⟨rfl, rfl⟩
    exact .inr ⟨_, rfl, rfl, rfl, below_drewN HP.out.1 nq⟩
  · have h1 : k < 0 := by omega
    have h2 : decide (0 ≤ k) = false := decide_eq_false (by omega)
    clear hk h0
    go_enter Tryd.func79, Tryd.ntmps79
    go_wp2_with fail
    generalize (w.alloc (.cells #[.slice a bs.length cap, .pointer (some ⟨P, 0, none⟩)] 69)) = W at *
    refine wp_region_end [_, _, _, _, _, _, _, _, _, _, _, _, _, _, _] _ rfl (by kernel_rfl) (by kernel_rfl) (by kernel_rfl) ?_
    repeat (quiet_step (fail))
    refine wpQuiet_nil ?_
    rintro _ ⟨nq, rfl⟩
    refine end_call 47 [.tmp 18] #[4] rfl run_demand [.bool false] rfl (demand_false ea _ (by exact HP.out.2.below (below_drewN (Below.refl _ _) nq))) ?_
    rintro e w1 ⟨rfl, rfl⟩
    exact .inr ⟨_, rfl, rfl, rfl, below_drewN HP.out.1 nq⟩

end Go.Proofs.YtfedeljadckjiaaDoor
