/-
  Contracts of slices.Grow and slices.Concat at messages, and of the program's msgsOfKid.
-/
import Derived.Test.YtccdleafkhnfmaaGreatMSpec
import Derived.Lib.Walk
import Derived.Lib.SliceRun
import Derived.Lib.AppendZerosOnto
namespace Go.Proofs.YtccdleafkhnfmaaGreat
open Go.RowKit

theorem trip3 {W : World} {R : Nat} {a b c : Value} (hR : W.heap[R]? = some (.cells #[a, b, c] 79 (0, 0))) : W.cell? ⟨R, 0, none⟩ = some a ∧ W.cell? ⟨R, 1, none⟩ = some b ∧ W.cell? ⟨R, 2, none⟩ = some c := by
  have h := fun j => cell_of_row W R j _ 79 (0, 0) hR
  exact ⟨by rw [h]; rfl, by rw [h]; rfl, by rw [h]; rfl⟩

open Go.Lib in
set_option maxHeartbeats 2000000 in
set_option maxRecDepth 100000 in
theorem grow_any (n : Nat) (w : World) (hn : n ≤ 8388608) :
    Calls Tryz.prog 62 #[.slice none 0 0, .int .i64 n] w fun e w' => ∃ v', e = .returned v' ∧ w'.ownsRow w.heap.size 79 3 v' 0 [] ∧ Below w.heap.size w w' := by
  obtain ⟨i0, hi0, hz0, hz1, hz2⟩ := info_parts Tryz.info79
  rcases Nat.eq_zero_or_pos n with rfl | hp
  · go_enter Tryz.func62, Tryz.ntmps62
    go_wp2
    go_ret
    exact ⟨_, rfl, World.ownsRow_nil _ _ _ _, Below.refl _ _⟩
  · have hrz : ∀ ty, (Builtin.append_ #[35, 3] ty #[.slice none 0 0, .int .i64 (n : Int)]).run Tryz.prog w =
        .ok (.slice (some ⟨w.heap.size, 0, none⟩) n (grownCap w n 0 79)) (w.drew.alloc (.cells (#[] ++ Builtin.zeroCells (Value.agg #[.int .i64 0, .int .i64 0, .int .i64 0]).cells n ++ Builtin.zeroCells (Value.agg #[.int .i64 0, .int .i64 0, .int .i64 0]).cells (grownCap w n 0 79 - n)) 79)) := fun ty => by
      have h := Lib.run_append_grow_zeros w 35 3 ty 79 i0 _ .i64 .i64 Tryz.underlying35 Tryz.underlying3 hi0 hz0 none 0 0 [] (run_firstCells_none w.drew i0.size 0 0 0) n hp (by rw [hz1]; decide) (by omega) (by omega)
        (by rw [hz2]; omega)
        (by rw [Nat.zero_add, hz2]; exact growslice_fits hp (by omega))
      rw [Nat.zero_add] at h
      exact h
    have HRZ : Hid _ := hrz
    have hGn : n ≤ grownCap w n 0 79 := grownCap_ge w _ _ _
    have hG63 := grownCap_le_maxLen w n 0 79 (by unfold maxLen; omega)
    generalize grownCap w n 0 79 = G at *
    have hb1 : (0 : Int) < (n : Int) := by omega
    have hb2 : ¬ ((n : Int) < 0) := by omega
    have hgm : G ≤ 9223372036854775807 := by
      have := hG63
      unfold maxLen at this
      omega
    have OW : Hid ((w.alloc (.cells (Builtin.zeroCells #[.int .i64 0, .int .i64 0, .int .i64 0] n ++ Builtin.zeroCells #[.int .i64 0, .int .i64 0, .int .i64 0] (G - n)) 79)).drew.ownsRow w.heap.size 79 3 (.slice (some ⟨w.heap.size, 0, none⟩) 0 G) 0 []) :=
      ⟨by simp, .inr ⟨w.heap.size, G, _, rfl, Nat.le_refl _, heap_alloc_new w _, Nat.zero_le _, hG63, by
        simp only [Array.size_append, size_zeroCells]
        show n * 3 + (G - n) * 3 = G * 3
        omega, by simp⟩⟩
    clear hrz hG63
    go_enter Tryz.func62, Tryz.ntmps62
    go_wp2_with (at_builtin; refine Lib.wpList_append_run _ rfl _ _ _ _ rfl _ _ rfl rfl _ _ (HRZ.out _) ?_)
    all_goals
      go_ret
      exact ⟨_, rfl, OW.out, ((Below.refl _ _).alloc (Nat.le_refl _) _).drew⟩

set_option maxHeartbeats 2000000 in
set_option maxRecDepth 100000 in
theorem concat_any (b : Nat) (v1 v2 : Value) (l1 l2 : ML) (w : World) (hb : w.heap[b]? = some (.cells #[v1, v2] 35 (0, 0))) (h1 : Row w v1 l1.length (flatM l1)) (h2 : Row w v2 l2.length (flatM l2)) (hn : l1.length + l2.length ≤ 2097152) :
    Calls Tryz.prog 48 #[.slice (some ⟨b, 0, none⟩) 2 2] w fun e w' => ∃ v', e = .returned v' ∧ w'.ownsRow w.heap.size 79 3 v' (l1 ++ l2).length (flatM (l1 ++ l2)) ∧ Below w.heap.size w w' := by
  obtain ⟨i0, hi0, hz0, hz1, hz2⟩ := info_parts Tryz.info79
  obtain ⟨a1, q1, rfl, _⟩ := h1.len
  obtain ⟨a2, q2, rfl, _⟩ := h2.len
  have c0 : w.cell? ⟨b, 0, none⟩ = some (.slice a1 l1.length q1) := by rw [cell_of_row w b 0 _ 35 (0, 0) hb]; rfl
  have c1 : w.cell? ⟨b, 1, none⟩ = some (.slice a2 l2.length q2) := by rw [cell_of_row w b 1 _ 35 (0, 0) hb]; rfl
  have R1 : Hid (Row w (.slice a1 l1.length q1) l1.length (flatM l1)) := h1
  have R2 : Hid (Row w (.slice a2 l2.length q2) l2.length (flatM l2)) := h2
  have C0 : Hid _ := c0
  have C1 : Hid _ := c1
  clear h1 h2 hb
  go_enter Tryz.func48, Tryz.ntmps48
  go_wp2
  go_loopw [3, 11] (fun sz i wr => w = wr ∧ ((i = .int .i64 0 ∧ sz = .int .i64 0) ∨ (i = .int .i64 1 ∧ sz = .int .i64 l1.length) ∨ (i = .int .i64 2 ∧ sz = .int .i64 (l1.length + l2.length)))) (fun _ i _ => 2 - (intOf i).toNat)
  case atStart => exact ⟨rfl, .inl ⟨rfl, rfl⟩⟩
  case round =>
    obtain ⟨rfl, hh⟩ := hrel
    rcases hh with ⟨rfl, rfl⟩ | ⟨rfl, rfl⟩ | ⟨rfl, rfl⟩
    · have hp : ¬ ((l1.length : Int) < 0) := by omega
      go_wp2
      go_roundw
      case rel => exact ⟨trivial, .inr (.inl ⟨by go_num, by go_num⟩)⟩
      case measure => simp [intOf]
    · have hp : ¬ ((l1.length : Int) + (l2.length : Int) < 0) := by omega
      go_wp2
      go_roundw
      case rel => exact ⟨trivial, .inr (.inr ⟨by go_num, by go_num⟩)⟩
      case measure => simp [intOf]
    · have hcast : ((l1.length : Int) + (l2.length : Int)) = ((l1.length + l2.length : Nat) : Int) := by omega
      have GA : Hid (Calls Tryz.prog 62 #[.slice none 0 0, .int .i64 ((l1.length : Int) + (l2.length : Int))] w fun e w' => ∃ v', e = .returned v' ∧ w'.ownsRow w.heap.size 79 3 v' 0 [] ∧ Below w.heap.size w w') := by
        rw [hcast]
        exact grow_any (l1.length + l2.length) w (by omega)
      clear hcast
      go_wp2_with fail
      refine Calls.mono GA.out ?_
      rintro e w2 ⟨v2, rfl, o2, hb2⟩
      have O2 : Hid (w2.ownsRow w.heap.size 79 3 v2 ([] : ML).length (flatM [])) := o2
      have B2 : Hid (Below w.heap.size w w2) := hb2
      clear o2 hb2 c0 c1
      go_wp2
      go_loopw [6, 27] (fun out i wr => Hid (Below w.heap.size w wr) ∧ ((i = .int .i64 0 ∧ Hid (wr.ownsRow w.heap.size 79 3 out ([] : ML).length (flatM []))) ∨ (i = .int .i64 1 ∧ Hid (wr.ownsRow w.heap.size 79 3 out l1.length (flatM l1))) ∨ (i = .int .i64 2 ∧ Hid (wr.ownsRow w.heap.size 79 3 out (l1 ++ l2).length (flatM (l1 ++ l2)))))) (fun _ i _ => 2 - (intOf i).toNat)
      case atStart => exact ⟨B2, .inl ⟨rfl, O2⟩⟩
      case round =>
        obtain ⟨BQ, hh⟩ := hrel
        clear O2 B2
        rcases hh with ⟨rfl, OQ⟩ | ⟨rfl, OQ⟩ | ⟨rfl, OQ⟩
        · have d0 := cell_lowB BQ.out (cell_lt C0.out) C0.out
          have RR : Hid _ := R1.out.below BQ.out
          have OW := OQ.out
          have HR : Hid (0 + l1.length ≤ maxLen ∧ (0 + l1.length) * 24 ≤ 140737488355328) := ⟨by unfold maxLen; omega, by omega⟩
          have H1 : Hid _ := flatM_one l1
          have HL : Hid _ := flatM_length l1
          have hbs : w.heap.size ≤ wr.heap.size := BQ.out.size
          go_wp2_with (at_builtin; refine app_row wr rfl _ _ 35 rfl w.heap.size 79 i0 _ 3 24 Tryz.underlying35 hi0 hz0 hz1 hz2 rfl (by decide) u6 0 [] rfl OW (.slice a1 l1.length q1) l1.length (flatM l1) rfl RR.out HL.out H1.out HR.out.1 HR.out.2 hbs ?_)
          intro v5 w5 o5 _ b5
          have FIN : Hid (w5.ownsRow w.heap.size 79 3 v5 l1.length (flatM l1) ∧ Below w.heap.size w w5) := ⟨o5, BQ.out.trans b5⟩
          clear o5 b5 OW d0
          go_wp2
          go_roundw
          case rel => exact ⟨FIN.out.2, .inr (.inl ⟨by go_num, FIN.out.1⟩)⟩
          case measure => simp [intOf]
        · have d0 := cell_lowB BQ.out (cell_lt C1.out) C1.out
          have RR : Hid _ := R2.out.below BQ.out
          have OW := OQ.out
          have HR : Hid (l1.length + l2.length ≤ maxLen ∧ (l1.length + l2.length) * 24 ≤ 140737488355328) := ⟨by unfold maxLen; omega, by omega⟩
          have H1 : Hid _ := flatM_one l2
          have HL : Hid _ := flatM_length l2
          have hbs : w.heap.size ≤ wr.heap.size := BQ.out.size
          go_wp2_with (at_builtin; refine app_row wr rfl _ _ 35 rfl w.heap.size 79 i0 _ 3 24 Tryz.underlying35 hi0 hz0 hz1 hz2 rfl (by decide) u6 _ _ rfl OW (.slice a2 l2.length q2) l2.length (flatM l2) rfl RR.out HL.out H1.out HR.out.1 HR.out.2 hbs ?_)
          intro v5 w5 o5 _ b5
          have FIN : Hid (w5.ownsRow w.heap.size 79 3 v5 (l1 ++ l2).length (flatM (l1 ++ l2)) ∧ Below w.heap.size w w5) := ⟨by rw [flatM_append, List.length_append]; exact o5, BQ.out.trans b5⟩
          clear o5 b5 OW d0
          go_wp2
          go_roundw
          case rel => exact ⟨FIN.out.2, .inr (.inr ⟨by go_num, FIN.out.1⟩)⟩
          case measure => simp [intOf]
        · go_wp2
          go_ret
          exact ⟨_, rfl, OQ.out, BQ.out⟩

theorem mineK_succ (cs : List Int) (i : Nat) (ms : ML) (j : Nat) (h : j < ms.length) : mineK cs i (ms.take (j + 1)) = if cntK cs (mK ms j) cs.length = i then mineK cs i (ms.take j) ++ [(mO ms j, mK ms j, mV ms j)] else mineK cs i (ms.take j) := by
  rw [take_succM ms j h, mineK, List.filter_append]
  by_cases hk : cntK cs (mK ms j) cs.length = i
  · simp [hk, mineK]
  · simp [hk, mineK]
theorem mineK_length (cs : List Int) (i : Nat) (ms : ML) : (mineK cs i ms).length ≤ ms.length := List.length_filter_le _ _

set_option maxHeartbeats 2000000 in
set_option maxRecDepth 100000 in
theorem msgsOfKid_any (vc : Value) (cs : List Int) (i : Nat) (vm : Value) (ms : ML) (w : World) (hc : Row w vc cs.length (flatI cs)) (hm : Row w vm ms.length (flatM ms)) (hn : ms.length ≤ 2097152) :
    Calls Tryz.prog 49 #[vc, .int .i64 i, vm] w fun e w' => ∃ v', e = .returned v' ∧ w'.ownsRow w.heap.size 79 3 v' (mineK cs i ms).length (flatM (mineK cs i ms)) ∧ Below w.heap.size w w' := by
  obtain ⟨i0, hi0, hz0, hz1, hz2⟩ := info_parts Tryz.info79
  obtain ⟨a, b, off, cap, rfl, hcap, hmax, ha, ho, hk, hv⟩ := hm.msgs
  unfold maxLen at hmax
  have RC : Hid (Row w vc cs.length (flatI cs)) := hc
  have MS : Hid (∀ j, j < ms.length → mineK cs i (ms.take (j + 1)) = if cntK cs (mK ms j) cs.length = i then mineK cs i (ms.take j) ++ [(mO ms j, mK ms j, mV ms j)] else mineK cs i (ms.take j)) := fun j hj => mineK_succ cs i ms j hj
  have MF : Hid (mineK cs i (ms.take ms.length) = mineK cs i ms) := by
    show _ = _
    rw [List.take_of_length_le (Nat.le_refl _)]
  have ML1 : Hid (∀ j, (mineK cs i (ms.take j)).length ≤ 2097152) := fun j => Nat.le_trans (mineK_length _ _ _) (Nat.le_trans (List.length_take_le' _ _) hn)
  have KA : Hid (∀ (k : Int) (w1 : World), Below w.heap.size w w1 → Calls Tryz.prog 63 #[vc, .int .i64 k] w1 fun e w' => e = .returned (.int .i64 (cntK cs k cs.length : Nat)) ∧ Below w1.heap.size w1 w') := fun k w1 hb => kidAt_any vc cs k w1 (RC.out.below hb)
  rw [← MF.out]
  generalize hfo : (fun j => mineK cs i (ms.take j)) = fo
  have hfo' : ∀ j, mineK cs i (ms.take j) = fo j := fun j => by rw [← hfo]
  have M0 : Hid (fo 0 = []) := by
    show _ = _
    rw [← hfo]; rfl
  simp only [hfo'] at MS MF ML1 ⊢
  clear hfo hfo' hc hm MF
  go_enter Tryz.func49, Tryz.ntmps49
  go_wp2
  go_loopw [7, 12] (fun out ii wr => ∃ j : Nat, j ≤ ms.length ∧ ii = .int .i64 j ∧ Hid (wr.ownsRow w.heap.size 79 3 out (fo j).length (flatM (fo j))) ∧ Hid (Below w.heap.size w wr))
    (fun _ ii _ => ms.length - (intOf ii).toNat)
  case atStart => exact ⟨0, Nat.zero_le _, rfl, by rw [M0.out]; exact World.ownsRow_nil _ _ _ _, Below.refl _ _⟩
  case round =>
    obtain ⟨j, hj, rfl, ON, BN⟩ := hrel
    by_cases hlt : j < ms.length
    · have hal := ha (by omega)
      subst hal
      have d0 := cell_lowB BN.out (cell_lt (ho j hlt)) (ho j hlt)
      have d1 := cell_lowB BN.out (cell_lt (hk j hlt)) (hk j hlt)
      have d2 := cell_lowB BN.out (cell_lt (hv j hlt)) (hv j hlt)
      have MS1 : Hid _ := MS.out j hlt
      have hml := ML1.out j
      have BA : Hid (Below w.heap.size w (wr.alloc (.cells #[.int .i64 (mO ms j), .int .i64 (mK ms j), .int .i64 (mV ms j)] 79))) := BN.out.alloc BN.out.size _
      have OA : Hid _ := ON.out.alloc (.cells #[.int .i64 (mO ms j), .int .i64 (mK ms j), .int .i64 (mV ms j)] 79)
      have MA : Hid _ := heap_alloc_new wr (.cells #[.int .i64 (mO ms j), .int .i64 (mK ms j), .int .i64 (mV ms j)] 79)
      have KC : Hid _ := KA.out (mK ms j) _ BA.out
      generalize mO ms j = x0 at *
      generalize mK ms j = x1 at *
      generalize mV ms j = x2 at *
      clear ho hk hv ha ON BN
      generalize hcn : cntK cs x1 cs.length = CN at *
      go_wp2_with fail
      refine Calls.mono KC.out ?_
      rintro e w1 ⟨rfl, b1⟩
      have B1 : Hid (Below w.heap.size w w1) := Below.and BA.out b1
      have O1 : Hid (w1.ownsRow w.heap.size 79 3 u7 (fo j).length (flatM (fo j))) := owns_below OA.out b1
      have M1 : Hid (w1.heap[wr.heap.size]? = some (.cells #[.int .i64 x0, .int .i64 x1, .int .i64 x2] 79 (0, 0))) := by
        show _ = _
        rw [b1.block _ (by simp)]; exact MA.out
      obtain ⟨m0, m1, m2⟩ := trip3 M1.out
      clear d0 d1 d2 b1 BA OA MA
      by_cases hq : CN = i
      · subst hq
        have DS : Hid (fo (j + 1) = fo j ++ [(x0, x1, x2)]) := MS1.out.trans (if_pos rfl)
        have HR : Hid _ := room_of (n := (fo j).length) (bytes := 24) (by omega) (by decide)
        have H1 : Hid _ := three_one x0 x1 x2
        have hbs : w.heap.size ≤ w1.heap.size := B1.out.size
        have OW := O1.out
        clear MS1
        go_wp2_with (at_builtin; refine app_one w1 rfl _ _ 35 rfl w.heap.size 79 i0 _ 3 24 Tryz.underlying35 hi0 hz0 hz1 hz2 rfl (by decide) u7 _ _ rfl OW [.int .i64 x0, .int .i64 x1, .int .i64 x2] rfl rfl H1.out HR.out.1 HR.out.2 hbs ?_)
        intro v5 w5 o5 _ b5
        have FIN : Hid _ := And.intro o5 (B1.out.trans b5)
        clear o5 b5 OW m0 m1 m2
        go_wp2
        go_roundw
        case rel => exact ⟨j + 1, by omega, by go_num, by rw [DS.out, flatM_append, List.length_append]; exact FIN.out.1, FIN.out.2⟩
        case measure => simp [intOf]; omega
      · have DS : Hid (fo (j + 1) = fo j) := MS1.out.trans (if_neg hq)
        have e4 : ((CN : Int) == (i : Int)) = false := by rw [beq_eq_false_iff_ne]; omega
        clear MS1
        go_wp2
        go_roundw
        case rel => exact ⟨j + 1, by omega, by go_num, by rw [DS.out]; exact O1, B1⟩
        case measure => simp [intOf]; omega
    · have hjj : j = ms.length := by omega
      have ON' : Hid (wr.ownsRow w.heap.size 79 3 u7 (fo ms.length).length (flatM (fo ms.length))) := by rw [← hjj]; exact ON
      clear ho hk hv ha
      go_wp2
      go_ret
      exact ⟨_, rfl, ON'.out, BN.out⟩

end Go.Proofs.YtccdleafkhnfmaaGreat
