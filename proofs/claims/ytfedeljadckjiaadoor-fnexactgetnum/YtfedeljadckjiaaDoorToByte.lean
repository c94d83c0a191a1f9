/-
  The laws' own copy of a row of bytes.
-/
import Derived.Test.YtfedeljadckjiaaDoorByteM
namespace Go.Proofs.YtfedeljadckjiaaDoor
open Go.RowKit

def filledB (l : List Int) (k : Nat) : List Value := flatB (l.take k) ++ List.replicate (l.length - k) (.int .u8 0)
theorem madeCells_allB (zs : Array Value) (z : Value) (h0 : 0 < zs.size) (h : ∀ i, i < zs.size → zs[i]! = z) (n : Nat) : (madeCells zs n).toList = List.replicate n z := by
  apply List.ext_getElem?
  intro j
  by_cases hj : j < n
  · simp [madeCells, hj]
    exact h _ (Nat.mod_lt _ h0)
  · simp [madeCells, hj]
theorem filledB_full (l : List Int) : filledB l l.length = flatB l := by simp [filledB]
theorem filledB_zero (l : List Int) (k : Nat) (hk : k < l.length) : (filledB l k)[k]? = some (.int .u8 0) := by
  have hl : (flatB (l.take k)).length = k := by rw [flatB_length]; simp; omega
  rw [filledB, List.getElem?_append_right (by omega), List.getElem?_replicate_of_lt (by omega)]
theorem filledB_step (l : List Int) (k : Nat) (hk : k < l.length) : (filledB l k).set k (.int .u8 (byOf l k)) = filledB l (k + 1) := by
  have hl : (flatB (l.take k)).length = k := by rw [flatB_length]; simp; omega
  obtain ⟨m, hm⟩ : ∃ m, l.length - k = m + 1 := ⟨l.length - k - 1, by omega⟩
  have hm2 : l.length - (k + 1) = m := by omega
  have e : byOf l k = l[k] := by simp [byOf, List.getD, hk]
  rw [filledB, filledB, List.take_succ_eq_append_getElem hk, flatB_append, hm, hm2, List.replicate_succ]
  rw [List.set_append_right _ _ (by omega), hl, Nat.sub_self, List.set_cons_zero, e]
  simp [flatB]

set_option maxHeartbeats 1000000 in
theorem toByteS_any (v : Value) (l : List Int) (w : World) (hr : Row w v l.length (flatB l)) (hn : l.length ≤ 1048576) :
    Calls Tryd.prog 25 #[v] w fun e w' => ∃ v', e = .returned v' ∧ w'.ownsRow w.heap.size 5 1 v' l.length (flatB l) ∧ Below w.heap.size w w' := by
  obtain ⟨a, b, off, cap, rfl, hcap, hmax, ha, hk⟩ := hr.bytes
  obtain ⟨i0, hi, hz0, hz1, hz2⟩ := info_parts Tryd.infoByte
  unfold maxLen at hmax
  go_enter Tryd.func25, Tryd.ntmps25
  go_wp2_with (at_make; refine wpList_make_full _ rfl _ _ 22 rfl w.heap.size 5 i0 _ 1 Tryd.underlying22 hi hz0 hz1 .i64 .i64 _ _ l.length rfl rfl rfl rfl ?c1 ?c2 ?c3 ?_)
  case c1 => rw [hz2]; omega
  case c2 => unfold maxLen; omega
  case c3 => exact Nat.le_refl _
  intro w0 hown0 hgrow0
  have hb0 : Below w.heap.size w w0 := (Below.refl _ _).grown hgrow0 (Nat.le_refl _) (fun k hk => by cases hk)
  clear hgrow0
  go_wp2
  go_loopw [4] (fun i wr => ∃ k : Nat, k ≤ l.length ∧ i = .int .i64 k ∧ wr.ownsRow w.heap.size 5 1 (.slice (some ⟨w.heap.size, 0, none⟩) l.length l.length) l.length (filledB l k) ∧ Below w.heap.size w wr)
    (fun i _ => l.length - (intOf i).toNat)
  case atStart => exact ⟨0, Nat.zero_le _, rfl, by rw [madeCells_allB _ (.int .u8 0) (by decide) (fun i hi => by match i, hi with | 0, _ => rfl)] at hown0; simpa [filledB, flatB] using hown0, hb0⟩
  case round =>
    obtain ⟨k, hkl, rfl, hown, hb⟩ := hrel
    clear hown0 hb0
    by_cases hlt : k < l.length
    · have hal := ha (by omega)
      subst hal
      have c0 := hk k hlt
      have hbl := cell_lt c0
      have d0 : wr.cell? ⟨b, off + k, none⟩ = some (.int .u8 (byOf l k)) := (hb.cell (by exact hbl)).trans c0
      clear hk c0 ha
      have e0 := (hown.cellAt k (by omega)).trans (filledB_zero l k hlt)
      have f0 := hown.frozenAt k
      have st := (hown.stored k (.int .u8 (byOf l k))).1
      rw [filledB_step l k hlt] at st
      have ST : Hid ((wr.setCell ⟨w.heap.size, k, none⟩ (.int .u8 (byOf l k))).ownsRow w.heap.size 5 1 (.slice (some ⟨w.heap.size, 0, none⟩) l.length l.length) l.length (filledB l (k + 1))) := st
      clear st hown
      go_wp2
      go_roundw
      case rel => exact ⟨k + 1, by omega, by go_num, ST.out, hb.setCell (Nat.le_refl _) _⟩
      case measure => simp [intOf]; omega
    · go_wp2
      go_ret
      have hkk : k = l.length := by omega
      subst hkk
      rw [filledB_full] at hown
      exact ⟨_, rfl, hown, hb⟩

end Go.Proofs.YtfedeljadckjiaaDoor
