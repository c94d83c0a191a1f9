/-
  The program's sorted map made of a list of pairs, and told as one.
-/
import Derived.Test.YtccdleafkhnfmaaGreatImplMap
namespace Go.Proofs.YtccdleafkhnfmaaGreat
open Go.RowKit

theorem owns_base {w : World} {base e size n : Nat} {v : Value} {xs : List Value} (h : w.ownsRow 0 e size v n xs) (hb : ∀ g, v.ownBlock = some g → base ≤ g) : w.ownsRow base e size v n xs := by
  obtain ⟨hl, h | ⟨g, cap, cur, rfl, hg, hh, hn, hcap, hsz, htake⟩⟩ := h
  · exact ⟨hl, .inl h⟩
  · exact ⟨hl, .inr ⟨g, cap, cur, rfl, hb g rfl, hh, hn, hcap, hsz, htake⟩⟩

set_option maxRecDepth 100000 in
set_option maxHeartbeats 2000000 in
theorem sortedOf_any (va : Value) (l : PL) (w : World) (h : Row w va l.length (flatP l)) (hasc : Asc l) (hn : l.length ≤ 1048576) :
    Calls Tryz.prog 58 #[va] w fun e w' => ∃ kv vv, e = .returned (.agg #[kv, vv]) ∧ w'.ownsRow w.heap.size 3 1 kv l.length ((keys l).map (Value.int .i64)) ∧ w'.ownsRow w.heap.size 3 1 vv l.length ((vals l).map (Value.int .i64)) ∧
      (∀ g, kv.ownBlock = some g → vv.ownBlock ≠ some g) ∧ Below w.heap.size w w' := by
  obtain ⟨a, b, off, cap, rfl, hcap, hmax, ha, hk, hv⟩ := h.pairs
  unfold maxLen at hmax
  have ASC : Hid (Asc l) := hasc
  clear hasc h
  have hs0 : ((w.alloc (.cells #[.slice none 0 0, .slice none 0 0] 100)).alloc (.cells #[.slice none 0 0, .slice none 0 0] 100)).heap.size = w.heap.size + 1 + 1 := by simp
  have hs1 : (w.alloc (.cells #[.slice none 0 0, .slice none 0 0] 100)).heap.size = w.heap.size + 1 := by simp
  have hB0 : ((w.alloc (.cells #[.slice none 0 0, .slice none 0 0] 100)).alloc (.cells #[.slice none 0 0, .slice none 0 0] 100)).heap[w.heap.size + 1]? = some (.cells #[.slice none 0 0, .slice none 0 0] 100 (0, 0)) := by
    rw [← hs1]; exact heap_alloc_new _ _
  have hA0 : ((w.alloc (.cells #[.slice none 0 0, .slice none 0 0] 100)).alloc (.cells #[.slice none 0 0, .slice none 0 0] 100)).heap[w.heap.size]? = some (.cells #[.slice none 0 0, .slice none 0 0] 100 (0, 0)) := by
    rw [Below.heap_alloc _ _ _ (by omega)]; exact heap_alloc_new _ _
  have START : Hid (SrtM ((w.alloc (.cells #[.slice none 0 0, .slice none 0 0] 100)).alloc (.cells #[.slice none 0 0, .slice none 0 0] 100)) (w.heap.size + 1) (fun g => g = w.heap.size + 1) []) :=
    ⟨.slice none 0 0, .slice none 0 0, hB0, World.ownsRow_nil _ _ _ _, World.ownsRow_nil _ _ _ _, fun g hg => by simp [Value.ownBlock] at hg, rfl, fun g hg => by simp [Value.ownBlock] at hg, fun g hg => by simp [Value.ownBlock] at hg⟩
  have b0 : Below w.heap.size w ((w.alloc (.cells #[.slice none 0 0, .slice none 0 0] 100)).alloc (.cells #[.slice none 0 0, .slice none 0 0] 100)) := ((Below.refl _ _).alloc (Nat.le_refl _) _).alloc (by simp) _
  have BB : Hid _ := b0
  have HA : Hid _ := hA0
  clear b0 hA0 hB0
  go_enter Tryz.func58, Tryz.ntmps58
  go_wp2
  generalize hW0 : (w.alloc (.cells #[.slice none 0 0, .slice none 0 0] 100)).alloc (.cells #[.slice none 0 0, .slice none 0 0] 100) = W0 at *
  clear hW0
  go_loopw [8] (fun i wr => ∃ (k : Nat) (F : Nat → Prop), k ≤ l.length ∧ i = .int .i64 k ∧ SrtM wr (w.heap.size + 1) F (l.take k) ∧ (∀ g, F g → w.heap.size + 1 ≤ g) ∧ Below (w.heap.size + 1) W0 wr)
    (fun i _ => l.length - (intOf i).toNat)
  case atStart => exact ⟨0, _, Nat.zero_le _, rfl, START.out, fun g hg => by omega, Below.refl _ _⟩
  case round =>
    obtain ⟨k, F, hkl, rfl, hsrt, hF, hb⟩ := hrel
    have hbw : Below w.heap.size w wr := BB.out.trans (hb.mono (by omega))
    have hbs := hb.size
    by_cases hlt : k < l.length
    · have hal := ha (by omega)
      subst hal
      have d0 := (hbw.cell (by exact cell_lt (hk k hlt))).trans (hk k hlt)
      have d1 := (hbw.cell (by exact cell_lt (hv k hlt))).trans (hv k hlt)
      have TP : Hid _ := take_put ASC.out k hlt
      have htl : (l.take k).length ≤ k := List.length_take_le _ _
      have AT : Hid _ := asc_take ASC.out k
      have ba : Below wr.heap.size wr (wr.alloc (.cells #[.int .i64 (kOf l k), .int .i64 (vOf l k)] 53)) := (Below.refl _ _).alloc (Nat.le_refl _) _
      have SA : Hid _ := SrtM.below hsrt ba
      have INFO : Hid _ := And.intro ba (And.intro hF hb)
      clear hk hv hsrt hF hb hbw ba
      go_wp2_with fail
      refine (put_map (w.heap.size + 1) F (l.take k) _ _ _ SA.out AT.out (by omega)).mono ?_
      rintro e w1 ⟨rfl, F', h1, h2, h3⟩
      obtain ⟨ba, hF, hb⟩ := INFO.out
      have hc : Chg F wr w1 := (Chg.of_below ba).trans h2 (fun _ _ e => e)
      have B1 : Below (w.heap.size + 1) W0 w1 := hb.trans (hc.below (fun g _ hg => hF g hg) (by omega))
      have F1 : ∀ g, F' g → w.heap.size + 1 ≤ g := fun g hg => (h3 g hg).elim (hF g) (fun hh => by have := ba.size; omega)
      rw [TP.out] at h1
      have FIN : Hid _ := And.intro h1 (And.intro F1 B1)
      clear h1 h2 h3 hc B1 F1 ba hF hb INFO
      go_wp2
      go_roundw
      case rel => exact ⟨k + 1, F', by omega, by go_num, FIN.out.1, FIN.out.2.1, FIN.out.2.2⟩
      case measure => simp [intOf]; omega
    · have hkk : k = l.length := by omega
      subst hkk
      rw [List.take_of_length_le (Nat.le_refl _)] at hsrt
      obtain ⟨kv, vv, h1, h2, h3, h4, h5, h6, h7⟩ := hsrt
      obtain ⟨ka, kc, hkv⟩ := owns_val h2
      obtain ⟨vva, vc, hvv⟩ := owns_val h3
      have c0 : wr.cell? ⟨w.heap.size + 1, 0, none⟩ = some kv := by rw [cell_of_cells h1]; rfl
      have c1 : wr.cell? ⟨w.heap.size + 1, 1, none⟩ = some vv := by rw [cell_of_cells h1]; rfl
      have hA := (hb.block w.heap.size (by omega)).trans HA.out
      have e0 : wr.cell? ⟨w.heap.size, 0, none⟩ = some (.slice none 0 0) := by rw [cell_of_cells hA]; rfl
      have e1 : wr.cell? ⟨w.heap.size, 1, none⟩ = some (.slice none 0 0) := by rw [cell_of_cells hA]; rfl
      have f0 : wr.frozen? ⟨w.heap.size, 0, none⟩ = false := frozen_of_cells hA
      have f1 : wr.frozen? ⟨w.heap.size, 1, none⟩ = false := frozen_of_cells hA
      have hch : Chg (fun g => g = w.heap.size) wr ((wr.setCell ⟨w.heap.size, 0, none⟩ kv).setCell ⟨w.heap.size, 1, none⟩ vv) := Chg.setAt (F := fun g => g = w.heap.size) (Chg.setAt (F := fun g => g = w.heap.size) (Chg.refl _ _) _ _ rfl _) _ _ rfl _
      have k2 := owns_base (base := w.heap.size) (owns_chg h2 hch (fun g hg e => by have := hF g (h6 g hg); omega)) (fun g hg => by have := hF g (h6 g hg); omega)
      have v2 := owns_base (base := w.heap.size) (owns_chg h3 hch (fun g hg e => by have := hF g (h7 g hg); omega)) (fun g hg => by have := hF g (h7 g hg); omega)
      have B2 : Below w.heap.size w ((wr.setCell ⟨w.heap.size, 0, none⟩ kv).setCell ⟨w.heap.size, 1, none⟩ vv) := (hbw.setCell (Nat.le_refl _) _).setCell (Nat.le_refl _) _
      rw [keys_length] at k2 hkv
      rw [vals_length] at v2 hvv
      rw [hkv] at c0 k2 h4 B2 v2
      rw [hvv] at c1 v2 h4 B2 k2
      have hA2 : ((wr.setCell ⟨w.heap.size, 0, none⟩ (.slice ka l.length kc)).setCell ⟨w.heap.size, 1, none⟩ (.slice vva l.length vc)).heap[w.heap.size]? = some (.cells #[.slice ka l.length kc, .slice vva l.length vc] 100 (0, 0)) := by
        rw [heap_setCell_same _ _ _ _ _ _ (heap_setCell_same wr _ _ _ _ _ hA)]; rfl
      have q0 : ((wr.setCell ⟨w.heap.size, 0, none⟩ (.slice ka l.length kc)).setCell ⟨w.heap.size, 1, none⟩ (.slice vva l.length vc)).cell? ⟨w.heap.size, 0, none⟩ = some (.slice ka l.length kc) := by rw [cell_of_cells hA2]; rfl
      have q1 : ((wr.setCell ⟨w.heap.size, 0, none⟩ (.slice ka l.length kc)).setCell ⟨w.heap.size, 1, none⟩ (.slice vva l.length vc)).cell? ⟨w.heap.size, 1, none⟩ = some (.slice vva l.length vc) := by rw [cell_of_cells hA2]; rfl
      have FIN : Hid _ := And.intro k2 (And.intro v2 (And.intro h4 B2))
      clear h1 h2 h3 h4 h5 h6 h7 hkv hvv hA hA2 hch k2 v2 B2 hF hb hbw hbs hk hv
      go_wp2
      refine bodyPost_ret (v := .agg #[.slice ka l.length kc, .slice vva l.length vc]) (by simp [results, Tryz.results58, go_sem, q0, q1]) rfl ?_
      exact ⟨_, _, rfl, FIN.out.1, FIN.out.2.1, FIN.out.2.2.1, FIN.out.2.2.2⟩

theorem keys_at (l : PL) (i : Nat) (h : i < l.length) : ((keys l).map (Value.int .i64))[i]? = some (.int .i64 (kOf l i)) := by simp [keys, kOf, List.getD, h]
theorem vals_at (l : PL) (i : Nat) (h : i < l.length) : ((vals l).map (Value.int .i64))[i]? = some (.int .i64 (vOf l i)) := by simp [vals, vOf, List.getD, h]

set_option maxRecDepth 100000 in
set_option maxHeartbeats 2000000 in
theorem pairsOf_any (kv vv : Value) (l : PL) (w : World) (h1 : Row w kv l.length ((keys l).map (Value.int .i64))) (h2 : Row w vv l.length ((vals l).map (Value.int .i64))) (hn : l.length ≤ 2097152) :
    Calls Tryz.prog 61 #[.agg #[kv, vv]] w fun e w' => ∃ v', e = .returned v' ∧ w'.ownsRow w.heap.size 53 2 v' l.length (flatP l) ∧ Below w.heap.size w w' := by
  obtain ⟨i0, hi, hz0, hz1, hz2⟩ := info_parts Tryz.info53
  obtain ⟨a, b, off, cap, rfl, hcap, hmax, ha, hk, _⟩ := h1
  obtain ⟨a2, b2, off2, cap2, rfl, hcap2, hmax2, ha2, hv, _⟩ := h2
  unfold maxLen at hmax hmax2
  have b0 : Below w.heap.size w (w.alloc (.cells #[.slice a l.length cap, .slice a2 l.length cap2] 100)) := (Below.refl _ _).alloc (Nat.le_refl _) _
  have hs0 : (w.alloc (.cells #[.slice a l.length cap, .slice a2 l.length cap2] 100)).heap.size = w.heap.size + 1 := by simp
  have hB := heap_alloc_new w (.cells #[.slice a l.length cap, .slice a2 l.length cap2] 100)
  have BB : Hid _ := And.intro b0 hB
  clear b0 hB
  go_enter Tryz.func61, Tryz.ntmps61
  go_wp2
  generalize hW0 : w.alloc (.cells #[.slice a l.length cap, .slice a2 l.length cap2] 100) = W0 at *
  clear hW0
  go_loopw [3, 9] (fun out i wr => ∃ k : Nat, k ≤ l.length ∧ i = .int .i64 k ∧ wr.ownsRow (w.heap.size + 1) 53 2 out (l.take k).length (flatP (l.take k)) ∧ Below (w.heap.size + 1) W0 wr)
    (fun _ i _ => l.length - (intOf i).toNat)
  case atStart => exact ⟨0, Nat.zero_le _, rfl, World.ownsRow_nil _ _ _ _, Below.refl _ _⟩
  case round =>
    obtain ⟨k, hkl, rfl, hown, hb⟩ := hrel
    have hbw : Below w.heap.size w wr := BB.out.1.trans (hb.mono (by omega))
    have hbs := hb.size
    by_cases hlt : k < l.length
    · have hal := ha (by omega)
      subst hal
      have hal2 := ha2 (by omega)
      subst hal2
      have c0 := hk k _ (keys_at l k hlt)
      have c1 := hv k _ (vals_at l k hlt)
      have d0 := (hbw.cell (by exact cell_lt c0)).trans c0
      have d1 := (hbw.cell (by exact cell_lt c1)).trans c1
      have hA := (hb.block w.heap.size (by omega)).trans BB.out.2
      have e1 : wr.cell? ⟨w.heap.size, 1, none⟩ = some (.slice (some ⟨b2, off2, none⟩) l.length cap2) := by rw [cell_of_cells hA]; rfl
      have DS : Hid _ := take_succP l k hlt
      have htl : (l.take k).length ≤ k := List.length_take_le _ _
      generalize l.take k = D at *
      have HR : Hid _ := room_of (n := D.length) (bytes := 16) (by omega) (by decide)
      have hbs1 : w.heap.size + 1 ≤ wr.heap.size := by omega
      clear hk hv c0 c1 hA hbw
      go_wp2_with (at_builtin; refine app_one wr rfl _ _ 33 rfl (w.heap.size + 1) 53 i0 _ 2 16 Tryz.underlying33 hi hz0 hz1 hz2 rfl (by decide) u3 _ _ rfl hown [.int .i64 (kOf l k), .int .i64 (vOf l k)] rfl rfl (two_one _ _) HR.out.1 HR.out.2 hbs1 ?_)
      intro v1 w1 ho1 _ hb1
      rw [flatP_snoc] at ho1
      have hb2 := hb.trans hb1
      clear d0 d1 hown hb hb1 hbs
      go_wp2
      go_roundw
      case rel => exact ⟨k + 1, by omega, by go_num, by rw [DS.out, List.length_append]; exact ho1, hb2⟩
      case measure => simp [intOf]; omega
    · have hkk : k = l.length := by omega
      subst hkk
      rw [List.take_of_length_le (Nat.le_refl _)] at hown
      have FIN : Hid _ := And.intro (owns_mono hown (show w.heap.size ≤ w.heap.size + 1 by omega)) hbw
      clear hown hbw hb
      go_wp2
      go_ret
      exact ⟨_, rfl, FIN.out.1, FIN.out.2⟩

end Go.Proofs.YtccdleafkhnfmaaGreat
