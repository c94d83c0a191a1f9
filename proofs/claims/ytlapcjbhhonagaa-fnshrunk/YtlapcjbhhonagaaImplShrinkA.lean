/-
  Contracts of the program's way to leave out gets, and to leave out what is overruled.
-/
import Derived.Test.YtlapcjbhhonagaaChangeB
namespace Go.Proofs.Ytlapcjbhhonagaa
open Go.RowKit

theorem wgF_succ (l : ML) (k : Nat) (h : k < l.length) : wgF (l.take (k + 1)) = if (mO l k == 4) = true then wgF (l.take k) else wgF (l.take k) ++ [(mO l k, mK l k, mV l k)] := by
  rw [take_succM l k h, wgF, List.filter_append]
  cases hq : mO l k == 4
  · have : mO l k ≠ 4 := by simpa using hq
    simp [wgF, this]
  · have : mO l k = 4 := by simpa using hq
    simp [wgF, this]
theorem wgF_length (l : ML) : (wgF l).length ≤ l.length := List.length_filter_le _ _
theorem ml_ok {l : ML} (h : ∀ m ∈ l, okM m = true) {k : Nat} (hk : k < l.length) : okM (mO l k, mK l k, mV l k) = true := by
  have := h l[k] (List.getElem_mem hk); rwa [ml_at l k hk] at this

set_option maxRecDepth 100000 in
set_option maxHeartbeats 2000000 in
theorem withoutGets_any (vm : Value) (l : ML) (w : World) (hm : Row w vm l.length (l.map encC)) (hok : ∀ m ∈ l, okM m = true) (hn : l.length ≤ 2097152) :
    Calls Try.prog 48 #[vm] w fun e w' => ∃ v', e = .returned v' ∧ w'.ownsRow w.heap.size 69 1 v' (wgF l).length ((wgF l).map encC) ∧ Below w.heap.size w w' := by
  obtain ⟨i0, hi, hz0, hz1, hz2⟩ := info_parts Try.info69
  obtain ⟨a, b, off, cap, rfl, hcap, hmax, ha, hc⟩ := hm.changes
  unfold maxLen at hmax
  have OK : Hid (∀ m ∈ l, okM m = true) := hok
  clear hm hok
  go_enter Try.func48, Try.ntmps48
  go_wp2
  go_loopw [3, 8] (fun out i wr => ∃ k : Nat, k ≤ l.length ∧ i = .int .i64 k ∧ Hid (wr.ownsRow w.heap.size 69 1 out (wgF (l.take k)).length ((wgF (l.take k)).map encC)) ∧ Hid (Below w.heap.size w wr))
    (fun _ i _ => l.length - (intOf i).toNat)
  case atStart => exact ⟨0, Nat.zero_le _, rfl, World.ownsRow_nil _ _ _ _, Below.refl _ _⟩
  case round =>
    obtain ⟨k, hkl, rfl, hown, hb⟩ := hrel
    by_cases hlt : k < l.length
    · have hal := ha (by omega)
      subst hal
      have d0 := (hb.out.cell (by exact cell_lt (hc k hlt))).trans (hc k hlt)
      obtain ⟨t, x, f, g, CH⟩ := chd_of (ml_ok OK.out hlt)
      have CHH : Hid _ := CH
      obtain ⟨z, t107⟩ := CH.t107
      rw [CH.enc] at d0
      have hds := wgF_succ l k hlt
      have hal := wgF_length (l.take k)
      have htl : (l.take k).length ≤ k := List.length_take_le _ _
      generalize wgF (l.take k) = A at *
      have OW : Hid (wr.ownsRow w.heap.size 69 1 u3 A.length (A.map encC)) := hown
      clear hc CH hown
      simp only at t107
      cases hq : (mO l k == 4)
      · rw [hq] at t107
        have DS : Hid _ := hds.trans (if_neg (by rw [hq]; decide))
        clear hds hq
        have OW1 := OW.out
        have HR : Hid _ := room_of (n := A.length) (bytes := 16) (by omega) (by decide)
        have H1 : Hid (∀ u ∈ [Value.iface t x], u.oneCell' = true) := fun u hu => by simp at hu; subst hu; rfl
        have hbs := hb.out.size
        go_wp2_with (at_builtin; refine app_one wr rfl _ _ 65 rfl w.heap.size 69 i0 _ 1 16 Try.underlying65 hi hz0 hz1 hz2 rfl (by decide) u3 _ _ rfl OW1 [.iface t x] rfl rfl H1.out HR.out.1 HR.out.2 hbs ?_)
        intro v3 w3 ho3 _ hb3
        have FIN : Hid _ := And.intro ho3 (hb.out.trans hb3)
        clear OW1 hb3 ho3
        go_wp2
        go_roundw
        case rel => exact ⟨k + 1, by omega, by go_num, by rw [DS.out, List.length_append, List.map_append, List.map_cons, CHH.out.enc]; exact FIN.out.1, FIN.out.2⟩
        case measure => simp [intOf]; omega
      · rw [hq] at t107
        have DS : Hid _ := hds.trans (if_pos hq)
        clear hds hq
        go_wp2
        go_roundw
        case rel => exact ⟨k + 1, by omega, by go_num, by rw [DS.out]; exact OW, hb⟩
        case measure => simp [intOf]; omega
    · go_wp2
      go_ret
      have hkk : k = l.length := by omega
      subst hkk
      rw [List.take_of_length_le (Nat.le_refl _)] at hown
      exact ⟨_, rfl, hown.out, hb.out⟩

end Go.Proofs.Ytlapcjbhhonagaa
