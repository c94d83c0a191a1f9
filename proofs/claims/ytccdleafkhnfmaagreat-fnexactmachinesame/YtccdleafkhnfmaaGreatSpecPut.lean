/-
  Contracts of the model's small functions on maps: clamp, without, put.
-/
import Derived.Test.YtccdleafkhnfmaaGreatAppend
import Derived.Test.YtccdleafkhnfmaaGreatPart1
import Derived.Test.YtccdleafkhnfmaaGreatMathPut
namespace Go.Proofs.YtccdleafkhnfmaaGreat
open Go.RowKit

set_option maxHeartbeats 400000 in
theorem l1Min_any (a b : Int) (w : World) : Calls Tryz.prog 88 #[.int .i64 a, .int .i64 b] w fun e w' => e = .returned (.int .i64 (min a b)) ∧ w' = w := by
  by_cases h : a < b
  · have E : Hid (min a b = a) := Int.min_eq_left (by omega)
    go_enter Tryz.func88, Tryz.ntmps88
    go_wp2
    go_ret
    exact ⟨ret_int E.out.symm, rfl⟩
  · have E : Hid (min a b = b) := Int.min_eq_right (by omega)
    go_enter Tryz.func88, Tryz.ntmps88
    go_wp2
    go_ret
    exact ⟨ret_int E.out.symm, rfl⟩
set_option maxHeartbeats 400000 in
theorem l1Max_any (a b : Int) (w : World) : Calls Tryz.prog 87 #[.int .i64 a, .int .i64 b] w fun e w' => e = .returned (.int .i64 (max a b)) ∧ w' = w := by
  by_cases h : b < a
  · have E : Hid (max a b = a) := Int.max_eq_left (by omega)
    go_enter Tryz.func87, Tryz.ntmps87
    go_wp2
    go_ret
    exact ⟨ret_int E.out.symm, rfl⟩
  · have E : Hid (max a b = b) := Int.max_eq_right (by omega)
    go_enter Tryz.func87, Tryz.ntmps87
    go_wp2
    go_ret
    exact ⟨ret_int E.out.symm, rfl⟩
theorem clamp_eq (x : Int) : max (min x 1000000000) (-1000000000) = clampI x := by
  unfold clampI; split <;> (try split) <;> omega
set_option maxHeartbeats 400000 in
theorem l1Clamp_any (x : Int) (w : World) : Calls Tryz.prog 71 #[.int .i64 x] w fun e w' => e = .returned (.int .i64 (clampI x)) ∧ w' = w := by
  have E : Hid (max (min x 1000000000) (-1000000000) = clampI x) := clamp_eq x
  go_enter Tryz.func71, Tryz.ntmps71
  go_wp2_with fail
  refine (l1Min_any _ _ _).mono ?_
  rintro e w' ⟨rfl, rfl⟩
  generalize hm : min x 1000000000 = m at *
  clear hm
  go_wp2_with fail
  refine (l1Max_any _ _ _).mono ?_
  rintro e w' ⟨rfl, rfl⟩
  rw [E.out]
  go_wp2
  go_ret
  exact ⟨rfl, rfl⟩

set_option maxHeartbeats 1000000 in
theorem l1Without_any (v : Value) (l : PL) (x : Int) (w : World) (h : Row w v l.length (flatP l)) (hn : l.length ≤ 4194304) :
    Calls Tryz.prog 70 #[v, .int .i64 x] w fun e w' => ∃ v', e = .returned v' ∧ w'.ownsRow w.heap.size 53 2 v' (delF l x).length (flatP (delF l x)) ∧ Below w.heap.size w w' := by
  obtain ⟨a, b, off, cap, rfl, hcap, hmax, ha, hk, hv⟩ := h.pairs
  obtain ⟨i0, hi, hz0, hz1, hz2⟩ := info_parts Tryz.info53
  unfold maxLen at hmax
  go_enter Tryz.func70, Tryz.ntmps70
  go_wp2
  go_loopw [5, 6] (fun out i wr => ∃ k : Nat, k ≤ l.length ∧ i = .int .i64 k ∧ wr.ownsRow w.heap.size 53 2 out (delF (l.take k) x).length (flatP (delF (l.take k) x)) ∧ Below w.heap.size w wr)
    (fun _ i _ => l.length - (intOf i).toNat)
  case atStart => exact ⟨0, Nat.zero_le _, rfl, empty_own w _ 53 2 (Nat.le_refl _), (Below.refl _ _).alloc (Nat.le_refl _) _⟩
  case round =>
    obtain ⟨k, hkl, rfl, hown, hb⟩ := hrel
    by_cases hlt : k < l.length
    · have hal := ha (by omega)
      subst hal
      have d0 := (hb.cell (by exact cell_lt (hk k hlt))).trans (hk k hlt)
      have d1 := (hb.cell (by exact cell_lt (hv k hlt))).trans (hv k hlt)
      have hds := delF_succ l x k hlt
      have hdl : (delF (l.take k) x).length ≤ k := Nat.le_trans (delF_length _ _) (List.length_take_le _ _)
      by_cases hx : kOf l k = x
      · have hq : (kOf l k != x) = false := by simpa using hx
        rw [if_pos hx] at hds
        have DS : Hid _ := hds
        have OW : Hid _ := hown
        clear hk hv hx hds hown h
        go_wp2
        go_roundw
        case rel => exact ⟨k + 1, by omega, by go_num, by rw [DS.out]; exact OW.out, hb⟩
        case measure => simp [intOf]; omega
      · have hq : (kOf l k != x) = true := by simpa using hx
        rw [if_neg hx] at hds
        have DS : Hid _ := hds
        generalize delF (l.take k) x = D at *
        have hbs := hb.size
        clear hk hv hx hds h
        have hrm := room_of (n := D.length) (bytes := 16) (by omega) (by decide)
        have HR : Hid _ := hrm
        clear hrm
        go_wp2_with (at_builtin; refine app_one wr rfl _ _ 33 rfl w.heap.size 53 i0 _ 2 16 Tryz.underlying33 hi hz0 hz1 hz2 rfl (by decide) u5 _ _ rfl hown [.int .i64 (kOf l k), .int .i64 (vOf l k)] rfl rfl (two_one _ _) HR.out.1 HR.out.2 hbs ?_)
        intro v' w1 ho1 _ hb1
        rw [flatP_snoc] at ho1
        have hb2 := hb.trans hb1
        clear hown hb hb1
        go_wp2
        go_roundw
        case rel => exact ⟨k + 1, by omega, by go_num, by rw [DS.out, List.length_append]; exact ho1, hb2⟩
        case measure => simp [intOf]; omega
    · go_wp2
      go_ret
      have hkk : k = l.length := by omega
      subst hkk
      rw [List.take_of_length_le (Nat.le_refl _)] at hown
      exact ⟨_, rfl, hown, hb⟩

theorem stp_cases {k v : Int} {s : PL × Bool} {p : Int × Int} : 
    (s.2 = false → k < p.1 → stp k v s p = (s.1 ++ [(k, v)] ++ [p], true)) ∧ (s.2 = false → p.1 = k → stp k v s p = (s.1 ++ [(k, v)], true)) ∧ (s.2 = false → p.1 < k → stp k v s p = (s.1 ++ [p], false)) ∧
    (s.2 = true → p.1 ≠ k → stp k v s p = (s.1 ++ [p], true)) ∧ (s.2 = true → p.1 = k → stp k v s p = (s.1, true)) := by
  obtain ⟨a, b⟩ := s
  refine ⟨fun h1 h2 => ?_, fun h1 h2 => ?_, fun h1 h2 => ?_, fun h1 h2 => ?_, fun h1 h2 => ?_⟩ <;> simp only at h1 <;> subst h1
  · simp [stp, show k ≤ p.1 by omega, show ¬ p.1 = k by omega]
  · simp [stp, h2]
  · simp [stp, show ¬ k ≤ p.1 by omega, show ¬ p.1 = k by omega]
  · simp [stp, h2]
  · simp [stp, h2]

set_option maxRecDepth 100000 in
set_option maxHeartbeats 2000000 in
theorem l1Put_any (v : Value) (l : PL) (x y : Int) (w : World) (h : Row w v l.length (flatP l)) (hn : l.length ≤ 2097152) (hasc : Asc l) :
    Calls Tryz.prog 69 #[v, .int .i64 x, .int .i64 y] w fun e w' => ∃ v', e = .returned v' ∧ w'.ownsRow w.heap.size 53 2 v' (putF l x y).length (flatP (putF l x y)) ∧ Below w.heap.size w w' := by
  obtain ⟨a, b, off, cap, rfl, hcap, hmax, ha, hk, hv⟩ := h.pairs
  obtain ⟨i0, hi, hz0, hz1, hz2⟩ := info_parts Tryz.info53
  unfold maxLen at hmax
  have FULL : Hid _ := stpTo_full hasc x y
  clear hasc h
  go_enter Tryz.func69, Tryz.ntmps69
  go_wp2
  go_loopw [7, 8, 9] (fun out put i wr => ∃ k : Nat, k ≤ l.length ∧ i = .int .i64 k ∧ put = .bool (stpTo x y l k).2 ∧ wr.ownsRow w.heap.size 53 2 out (stpTo x y l k).1.length (flatP (stpTo x y l k).1) ∧ Below w.heap.size w wr)
    (fun _ _ i _ => l.length - (intOf i).toNat)
  case atStart => exact ⟨0, Nat.zero_le _, rfl, rfl, empty_own w _ 53 2 (Nat.le_refl _), (Below.refl _ _).alloc (Nat.le_refl _) _⟩
  case round =>
    obtain ⟨k, hkl, rfl, rfl, hown, hb⟩ := hrel
    have hbs := hb.size
    by_cases hlt : k < l.length
    · have hal := ha (by omega)
      subst hal
      have d0 := (hb.cell (by exact cell_lt (hk k hlt))).trans (hk k hlt)
      have d1 := (hb.cell (by exact cell_lt (hv k hlt))).trans (hv k hlt)
      have hds := stpTo_succ x y l k hlt
      have hdl := stpTo_length x y l k
      obtain ⟨cc1, cc2, cc3, cc4, cc5⟩ := @stp_cases x y (stpTo x y l k) (kOf l k, vOf l k)
      have hbw : b < w.heap.size := cell_lt (hk k hlt)
      clear hk hv
      generalize hS : stpTo x y l k = S at *
      clear hS
      have HR : Hid _ := room_of (n := S.1.length) (bytes := 16) (by omega) (by decide)
      have HR2 : Hid _ := room_of (n := S.1.length + 1) (bytes := 16) (by omega) (by decide)
      obtain ⟨D, fl⟩ := S
      simp only at hown cc1 cc2 cc3 cc4 cc5 HR HR2
      cases fl
      · rcases (show x < kOf l k ∨ kOf l k = x ∨ kOf l k < x from by omega) with hc | hc | hc
        · have DS : Hid _ := hds.trans (cc1 rfl hc)
          have hq : (kOf l k != x) = true := by rw [bne_iff_ne]; omega
          clear hds cc1 cc2 cc3 cc4 cc5
          go_wp2_with (at_builtin; refine app_one wr rfl _ _ 33 rfl w.heap.size 53 i0 _ 2 16 Tryz.underlying33 hi hz0 hz1 hz2 rfl (by decide) u7 _ _ rfl hown [.int .i64 x, .int .i64 y] rfl rfl (two_one _ _) HR.out.1 HR.out.2 hbs ?_)
          intro v1 w1 ho1 _ hb1
          rw [flatP_snoc] at ho1
          have hb2 := hb.trans hb1
          have hbs1 := hb2.size
          have e0 := (hb1.cell (p := ⟨b, off + k * 2, none⟩) hbw).trans d0
          have e1 := (hb1.cell (p := ⟨b, off + k * 2 + 1, none⟩) hbw).trans d1
          clear d0 d1 hown hb hb1 hbs
          go_wp2_with (at_builtin; refine app_one w1 rfl _ _ 33 rfl w.heap.size 53 i0 _ 2 16 Tryz.underlying33 hi hz0 hz1 hz2 rfl (by decide) v1 _ _ rfl ho1 [.int .i64 (kOf l k), .int .i64 (vOf l k)] rfl rfl (two_one _ _) HR2.out.1 HR2.out.2 hbs1 ?_)
          intro v2 w2 ho2 _ hb3
          rw [flatP_snoc] at ho2
          have hb4 := hb2.trans hb3
          clear ho1 hb2 hb3 e0 e1
          go_wp2
          go_roundw
          case rel => exact ⟨k + 1, by omega, by go_num, by rw [DS.out], by rw [DS.out, List.length_append, List.length_append]; exact ho2, hb4⟩
          case measure => simp [intOf]; omega
        · have DS : Hid _ := hds.trans (cc2 rfl hc)
          have hq : (kOf l k != x) = false := by rw [bne_eq_false_iff_eq]; exact hc
          have hge : x ≤ kOf l k := by omega
          clear hds cc1 cc2 cc3 cc4 cc5 hc
          go_wp2_with (at_builtin; refine app_one wr rfl _ _ 33 rfl w.heap.size 53 i0 _ 2 16 Tryz.underlying33 hi hz0 hz1 hz2 rfl (by decide) u7 _ _ rfl hown [.int .i64 x, .int .i64 y] rfl rfl (two_one _ _) HR.out.1 HR.out.2 hbs ?_)
          intro v1 w1 ho1 _ hb1
          rw [flatP_snoc] at ho1
          have hb2 := hb.trans hb1
          have e0 := (hb1.cell (p := ⟨b, off + k * 2, none⟩) hbw).trans d0
          clear d0 d1 hown hb hb1 hbs
          go_wp2
          go_roundw
          case rel => exact ⟨k + 1, by omega, by go_num, by rw [DS.out], by rw [DS.out, List.length_append]; exact ho1, hb2⟩
          case measure => simp [intOf]; omega
        · have DS : Hid _ := hds.trans (cc3 rfl hc)
          have hq : (kOf l k != x) = true := by rw [bne_iff_ne]; omega
          clear hds cc1 cc2 cc3 cc4 cc5
          go_wp2_with (at_builtin; refine app_one wr rfl _ _ 33 rfl w.heap.size 53 i0 _ 2 16 Tryz.underlying33 hi hz0 hz1 hz2 rfl (by decide) u7 _ _ rfl hown [.int .i64 (kOf l k), .int .i64 (vOf l k)] rfl rfl (two_one _ _) HR.out.1 HR.out.2 hbs ?_)
          intro v1 w1 ho1 _ hb1
          rw [flatP_snoc] at ho1
          have hb2 := hb.trans hb1
          clear d0 d1 hown hb hb1 hbs
          go_wp2
          go_roundw
          case rel => exact ⟨k + 1, by omega, by go_num, by rw [DS.out], by rw [DS.out, List.length_append]; exact ho1, hb2⟩
          case measure => simp [intOf]; omega
      · by_cases hc : kOf l k = x
        · have DS : Hid _ := hds.trans (cc5 rfl hc)
          have hq : (kOf l k != x) = false := by rw [bne_eq_false_iff_eq]; exact hc
          clear hds cc1 cc2 cc3 cc4 cc5 hc
          have OW : Hid _ := hown
          clear hown
          go_wp2
          go_roundw
          case rel => exact ⟨k + 1, by omega, by go_num, by rw [DS.out], by rw [DS.out]; exact OW.out, hb⟩
          case measure => simp [intOf]; omega
        · have DS : Hid _ := hds.trans (cc4 rfl hc)
          have hq : (kOf l k != x) = true := by rw [bne_iff_ne]; exact hc
          clear hds cc1 cc2 cc3 cc4 cc5
          go_wp2_with (at_builtin; refine app_one wr rfl _ _ 33 rfl w.heap.size 53 i0 _ 2 16 Tryz.underlying33 hi hz0 hz1 hz2 rfl (by decide) u7 _ _ rfl hown [.int .i64 (kOf l k), .int .i64 (vOf l k)] rfl rfl (two_one _ _) HR.out.1 HR.out.2 hbs ?_)
          intro v1 w1 ho1 _ hb1
          rw [flatP_snoc] at ho1
          have hb2 := hb.trans hb1
          clear d0 d1 hown hb hb1 hbs
          go_wp2
          go_roundw
          case rel => exact ⟨k + 1, by omega, by go_num, by rw [DS.out], by rw [DS.out, List.length_append]; exact ho1, hb2⟩
          case measure => simp [intOf]; omega
    · have hkk : k = l.length := by omega
      subst hkk
      have hdl := stpTo_length x y l l.length
      generalize hS : stpTo x y l l.length = S at *
      clear hS
      have HR : Hid _ := room_of (n := S.1.length) (bytes := 16) (by omega) (by decide)
      obtain ⟨D, fl⟩ := S
      simp only at hown HR
      cases fl
      · go_wp2_with (at_builtin; refine app_one wr rfl _ _ 33 rfl w.heap.size 53 i0 _ 2 16 Tryz.underlying33 hi hz0 hz1 hz2 rfl (by decide) u7 _ _ rfl hown [.int .i64 x, .int .i64 y] rfl rfl (two_one _ _) HR.out.1 HR.out.2 hbs ?_)
        intro v1 w1 ho1 _ hb1
        rw [flatP_snoc] at ho1
        have hb2 := hb.trans hb1
        clear hown hb hb1 hbs
        go_wp2
        go_ret
        have e : putF l x y = D ++ [(x, y)] := by rw [← FULL.out]; rfl
        exact ⟨_, rfl, by rw [e, List.length_append]; exact ho1, hb2⟩
      · have OW : Hid _ := hown
        clear hown
        go_wp2
        go_ret
        have e : putF l x y = D := by rw [← FULL.out]; rfl
        exact ⟨_, rfl, by rw [e]; exact OW.out, hb⟩

end Go.Proofs.YtccdleafkhnfmaaGreat
