/-
  The laws' own big and at; a row of bytes as a string.
-/
import Derived.Test.YtfedeljadckjiaaDoorDrawB
import Derived.Test.YtfedeljadckjiaaDoorNodeMath
import Derived.Laws.BytesArg
namespace Go.Proofs.YtfedeljadckjiaaDoor
open Go.RowKit

set_option maxHeartbeats 400000 in
theorem big_any (a : Option Addr) (n cap : Nat) (hn : n ≤ maxLen) (w : World) :
    Calls Tryd.prog 8 #[.slice a n cap] w fun e w' => e = .returned (.bool (decide (n > 1048576))) ∧ w' = w := by
  unfold maxLen at hn
  by_cases h : n > 1048576
  · have hd : decide ((n : Int) > 1048576) = true := decide_eq_true (by omega)
    go_enter Tryd.func8, Tryd.ntmps8
    go_wp2
    go_ret
    exact ⟨ret_bool (by simp [h]; try omega), rfl⟩
  · go_enter Tryd.func8, Tryd.ntmps8
    go_wp2
    go_ret
    exact ⟨ret_bool (by simp [h]; try omega), rfl⟩

set_option maxHeartbeats 400000 in
theorem at_any (v : Value) (bs : List Int) (w : World) (hc : Code8 w v bs) (hn : bs.length ≤ 1048576) (i : Nat) (hi : i ≤ 1000) :
    Calls Tryd.prog 22 #[v, .int .i64 i] w fun e w' => (∃ x : Int, e = .returned (.int .i64 x) ∧ 0 ≤ x ∧ x ≤ 255) ∧ w' = w := by
  obtain ⟨⟨a, b, off, cap, rfl, hcap, hmax, ha, hk, _⟩, hb⟩ := hc
  have hcell : ∀ j, j < bs.length → w.cell? ⟨b, off + j, none⟩ = some (.int .u8 (bs.getD j 0)) := fun j hj => hk j _ (by simp [hj, List.getD])
  unfold maxLen at hmax
  clear hk
  by_cases hlt : i < bs.length
  · have hal := ha (by omega)
    subst hal
    have d0 := hcell i hlt
    obtain ⟨hy0, hy1⟩ := hb i
    generalize bs.getD i 0 = y at *
    clear hcell hb
    go_enter Tryd.func22, Tryd.ntmps22
    go_wp2
    go_ret
    exact ⟨⟨y, rfl, hy0, hy1⟩, rfl⟩
  · clear hcell hb
    go_enter Tryd.func22, Tryd.ntmps22
    go_wp2
    go_ret
    exact ⟨⟨_, rfl, by omega, by omega⟩, rfl⟩

/-- a row of bytes of its own, as a string, in whatever world holds it -/
theorem conv_own {base : Nat} {u : World} {v : Value} {l : List Int} (h : OwnB base u v l) : (convert 22 9 v).run Tryd.prog u = .ok (.string (strOfNums l)) u := by
  have h0 := h
  obtain ⟨hl, ⟨rfl, hz⟩ | ⟨g, cap, cur, rfl, _⟩⟩ := h
  · have : l = [] := List.length_eq_zero_iff.1 hz
    subst this
    exact run_convert_bytes_nil u 22 5 Tryd.underlying22 Tryd.underlying5 0 0 9 Tryd.underlying9
  · refine run_convert_bytes_arg u 22 5 Tryd.underlying22 Tryd.underlying5 g 0 l.length cap l rfl (fun i hi => ?_) 9 Tryd.underlying9
    rw [Nat.zero_add]
    exact (World.ownsRow.cellAt h0 i (by omega)).trans (flatB_at l i hi)
/-- a stretch of it -/
theorem conv_part {base : Nat} {u : World} {g n cap : Nat} {l : List Int} (h : OwnB base u (.slice (some ⟨g, 0, none⟩) n cap) l) (k m c : Nat) (hm : k + m ≤ l.length) : (convert 22 9 (.slice (some ⟨g, k, none⟩) m c)).run Tryd.prog u = .ok (.string (strOfNums ((l.drop k).take m))) u := by
  refine run_convert_bytes_arg u 22 5 Tryd.underlying22 Tryd.underlying5 g k m c _ (by simp; omega) (fun i hi => ?_) 9 Tryd.underlying9
  obtain ⟨hl, ⟨h1, _⟩ | ⟨g', cap', cur, h1, _⟩⟩ := id h
  · cases h1
  · have hn : n = l.length := by simp at h1; exact h1.2.1
    subst hn
    have := (World.ownsRow.cellAt h (k + i) (by omega)).trans (flatB_at l (k + i) (by omega))
    rw [this]
    congr 2
    simp [byOf, List.getD, List.getElem?_drop, hi]

end Go.Proofs.YtfedeljadckjiaaDoor
