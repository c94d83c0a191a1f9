/-
  Contracts of the model's small functions on maps: clamp, without, put.
  Contracts of MapOk, the model's and the program's.
  Contracts of MapGet, the model's and the program's.
  The generic sorted map of chapter 1 at ints: its three methods, by contracts.
  The laws' own functions that write marks into a list of pairs, and look for them.
  Lists of messages as rows of cells; the laws' own functions on them.
  Contracts of the model's MapDo and MapAll.
-/
import Derived.Test.YtekcnibohikmdaaOfWrites1
import Derived.Lib.RowBridge
namespace Go.Proofs.Ytekcnibohikmdaa
set_option maxRecDepth 100000
set_option maxHeartbeats 8000000
section
open Go.RowKit

theorem l1Min_any (a b : Int) (w : World) : Calls Try.prog 75 #[.int .i64 a, .int .i64 b] w fun e w' => e = .returned (.int .i64 (min a b)) ∧ w' = w := by
 by_cases h : a < b
 ·have E : Hid (min a b = a) := Int.min_eq_left (by omega)
  go_enter Try.func75, Try.ntmps75
  go_wp2
  go_ret
  exact ⟨ret_int E.out.symm, rfl⟩
 ·have E : Hid (min a b = b) := Int.min_eq_right (by omega)
  go_enter Try.func75, Try.ntmps75
  go_wp2
  go_ret
  exact ⟨ret_int E.out.symm, rfl⟩
theorem l1Max_any (a b : Int) (w : World) : Calls Try.prog 30 #[.int .i64 a, .int .i64 b] w fun e w' => e = .returned (.int .i64 (max a b)) ∧ w' = w := by
 by_cases h : b < a
 ·have E : Hid (max a b = a) := Int.max_eq_left (by omega)
  go_enter Try.func30, Try.ntmps30
  go_wp2
  go_ret
  exact ⟨ret_int E.out.symm, rfl⟩
 ·have E : Hid (max a b = b) := Int.max_eq_right (by omega)
  go_enter Try.func30, Try.ntmps30
  go_wp2
  go_ret
  exact ⟨ret_int E.out.symm, rfl⟩
theorem clamp_eq (x : Int) : max (min x 1000000000) (-1000000000) = clampI x := by
 unfold clampI; split <;> (try split) <;> omega
theorem l1Clamp_any (x : Int) (w : World) : Calls Try.prog 70 #[.int .i64 x] w fun e w' => e = .returned (.int .i64 (clampI x)) ∧ w' = w := by
 have E : Hid (max (min x 1000000000) (-1000000000) = clampI x) := clamp_eq x
 go_enter Try.func70, Try.ntmps70
 go_wp2_with fail
 refine (l1Min_any _ _ _).mono ?_
 rintro e w' ⟨rfl, rfl⟩
 generalize hm : min x 1000000000 = m at *
 clear hm
 go_wp2_with fail
 refine (l1Max_any _ _ _).mono ?_
 rintro e w' ⟨rfl, rfl⟩
 rw [E.out]
 go_wp2
 go_ret
 exact ⟨rfl, rfl⟩

theorem l1Without_any (v : Value) (l : PL) (x : Int) (w : World) (h : Row w v l.length (flatP l)) (hn : l.length ≤ 4194304) :
  Calls Try.prog 74 #[v, .int .i64 x] w fun e w' => ∃ v', e = .returned v' ∧ w'.ownsRow w.heap.size 76 2 v' (delF l x).length (flatP (delF l x)) ∧ Below w.heap.size w w' := by
 obtain ⟨a, b, off, cap, rfl, hcap, hmax, ha, hk, hv⟩ := h.pairs
 obtain ⟨i0, hi, hz0, hz1, hz2⟩ := info_parts Try.info76
 unfold maxLen at hmax
 go_enter Try.func74, Try.ntmps74
 go_wp2
 go_loopw [5, 6] (fun out i wr => ∃ k : Nat, k ≤ l.length ∧ i = .int .i64 k ∧ wr.ownsRow w.heap.size 76 2 out (delF (l.take k) x).length (flatP (delF (l.take k) x)) ∧ Below w.heap.size w wr)
  (fun _ i _ => l.length - (intOf i).toNat)
 case atStart => exact ⟨0, Nat.zero_le _, rfl, empty_own w _ 76 2 (Nat.le_refl _), (Below.refl _ _).alloc (Nat.le_refl _) _⟩
 case round =>
  obtain ⟨k, hkl, rfl, hown, hb⟩ := hrel
  by_cases hlt : k < l.length
  ·have hal := ha (by omega)
   subst hal
   have d0 := (hb.cell (by exact cell_lt (hk k hlt))).trans (hk k hlt)
   have d1 := (hb.cell (by exact cell_lt (hv k hlt))).trans (hv k hlt)
   have hds := delF_succ l x k hlt
   have hdl : (delF (l.take k) x).length ≤ k := Nat.le_trans (delF_length _ _) (List.length_take_le _ _)
   by_cases hx : kOf l k = x
   ·have hq : (kOf l k != x) = false := by simpa using hx
    rw [if_pos hx] at hds
    have DS : Hid _ := hds
    have OW : Hid _ := hown
    clear hk hv hx hds hown h
    go_wp2
    go_roundw
    case rel => exact ⟨k + 1, by omega, by go_num, by rw [DS.out]; exact OW.out, hb⟩
    case measure => simp [intOf]; omega
   ·have hq : (kOf l k != x) = true := by simpa using hx
    rw [if_neg hx] at hds
    have DS : Hid _ := hds
    generalize delF (l.take k) x = D at *
    have hbs := hb.size
    clear hk hv hx hds h
    have hrm := room_of (n := D.length) (bytes := 16) (by omega) (by decide)
    have HR : Hid _ := hrm
    clear hrm
    go_wp2_with (at_builtin; refine app_one wr rfl _ _ 49 rfl w.heap.size 76 i0 _ 2 16 Try.underlying49 hi hz0 hz1 hz2 rfl (by decide) u5 _ _ rfl hown [.int .i64 (kOf l k), .int .i64 (vOf l k)] rfl rfl (two_one _ _) HR.out.1 HR.out.2 hbs ?_)
    intro v' w1 ho1 _ hb1
    rw [flatP_snoc] at ho1
    have hb2 := hb.trans hb1
    clear hown hb hb1
    go_wp2
    go_roundw
    case rel => exact ⟨k + 1, by omega, by go_num, by rw [DS.out, List.length_append]; exact ho1, hb2⟩
    case measure => simp [intOf]; omega
  ·go_wp2
   go_ret
   have hkk : k = l.length := by omega
   subst hkk
   rw [List.take_of_length_le (Nat.le_refl _)] at hown
   exact ⟨_, rfl, hown, hb⟩

theorem stp_cases {k v : Int} {s : PL × Bool} {p : Int × Int} : 
  (s.2 = false → k < p.1 → stp k v s p = (s.1 ++ [(k, v)] ++ [p], true)) ∧ (s.2 = false → p.1 = k → stp k v s p = (s.1 ++ [(k, v)], true)) ∧ (s.2 = false → p.1 < k → stp k v s p = (s.1 ++ [p], false)) ∧
  (s.2 = true → p.1 ≠ k → stp k v s p = (s.1 ++ [p], true)) ∧ (s.2 = true → p.1 = k → stp k v s p = (s.1, true)) := by
 obtain ⟨a, b⟩ := s
 refine ⟨fun h1 h2 => ?_, fun h1 h2 => ?_, fun h1 h2 => ?_, fun h1 h2 => ?_, fun h1 h2 => ?_⟩ <;> simp only at h1 <;> subst h1
 ·simp [stp, show k ≤ p.1 by omega, show ¬ p.1 = k by omega]
 ·simp [stp, h2]
 ·simp [stp, show ¬ k ≤ p.1 by omega, show ¬ p.1 = k by omega]
 ·simp [stp, h2]
 ·simp [stp, h2]

theorem l1Put_any (v : Value) (l : PL) (x y : Int) (w : World) (h : Row w v l.length (flatP l)) (hn : l.length ≤ 2097152) (hasc : Asc l) :
  Calls Try.prog 73 #[v, .int .i64 x, .int .i64 y] w fun e w' => ∃ v', e = .returned v' ∧ w'.ownsRow w.heap.size 76 2 v' (putF l x y).length (flatP (putF l x y)) ∧ Below w.heap.size w w' := by
 obtain ⟨a, b, off, cap, rfl, hcap, hmax, ha, hk, hv⟩ := h.pairs
 obtain ⟨i0, hi, hz0, hz1, hz2⟩ := info_parts Try.info76
 unfold maxLen at hmax
 have FULL : Hid _ := stpTo_full hasc x y
 clear hasc h
 go_enter Try.func73, Try.ntmps73
 go_wp2
 go_loopw [7, 8, 9] (fun out put i wr => ∃ k : Nat, k ≤ l.length ∧ i = .int .i64 k ∧ put = .bool (stpTo x y l k).2 ∧ wr.ownsRow w.heap.size 76 2 out (stpTo x y l k).1.length (flatP (stpTo x y l k).1) ∧ Below w.heap.size w wr)
  (fun _ _ i _ => l.length - (intOf i).toNat)
 case atStart => exact ⟨0, Nat.zero_le _, rfl, rfl, empty_own w _ 76 2 (Nat.le_refl _), (Below.refl _ _).alloc (Nat.le_refl _) _⟩
 case round =>
  obtain ⟨k, hkl, rfl, rfl, hown, hb⟩ := hrel
  have hbs := hb.size
  by_cases hlt : k < l.length
  ·have hal := ha (by omega)
   subst hal
   have d0 := (hb.cell (by exact cell_lt (hk k hlt))).trans (hk k hlt)
   have d1 := (hb.cell (by exact cell_lt (hv k hlt))).trans (hv k hlt)
   have hds := stpTo_succ x y l k hlt
   have hdl := stpTo_length x y l k
   obtain ⟨cc1, cc2, cc3, cc4, cc5⟩ := @stp_cases x y (stpTo x y l k) (kOf l k, vOf l k)
   have hbw : b < w.heap.size := cell_lt (hk k hlt)
   clear hk hv
   generalize hS : stpTo x y l k = S at *
   clear hS
   have HR : Hid _ := room_of (n := S.1.length) (bytes := 16) (by omega) (by decide)
   have HR2 : Hid _ := room_of (n := S.1.length + 1) (bytes := 16) (by omega) (by decide)
   obtain ⟨D, fl⟩ := S
   simp only at hown cc1 cc2 cc3 cc4 cc5 HR HR2
   cases fl
   ·rcases (show x < kOf l k ∨ kOf l k = x ∨ kOf l k < x from by omega) with hc | hc | hc
    ·have DS : Hid _ := hds.trans (cc1 rfl hc)
     have hq : (kOf l k != x) = true := by rw [bne_iff_ne]; omega
     clear hds cc1 cc2 cc3 cc4 cc5
     go_wp2_with (at_builtin; refine app_one wr rfl _ _ 49 rfl w.heap.size 76 i0 _ 2 16 Try.underlying49 hi hz0 hz1 hz2 rfl (by decide) u7 _ _ rfl hown [.int .i64 x, .int .i64 y] rfl rfl (two_one _ _) HR.out.1 HR.out.2 hbs ?_)
     intro v1 w1 ho1 _ hb1
     rw [flatP_snoc] at ho1
     have hb2 := hb.trans hb1
     have hbs1 := hb2.size
     have e0 := (hb1.cell (p := ⟨b, off + k * 2, none⟩) hbw).trans d0
     have e1 := (hb1.cell (p := ⟨b, off + k * 2 + 1, none⟩) hbw).trans d1
     clear d0 d1 hown hb hb1 hbs
     go_wp2_with (at_builtin; refine app_one w1 rfl _ _ 49 rfl w.heap.size 76 i0 _ 2 16 Try.underlying49 hi hz0 hz1 hz2 rfl (by decide) v1 _ _ rfl ho1 [.int .i64 (kOf l k), .int .i64 (vOf l k)] rfl rfl (two_one _ _) HR2.out.1 HR2.out.2 hbs1 ?_)
     intro v2 w2 ho2 _ hb3
     rw [flatP_snoc] at ho2
     have hb4 := hb2.trans hb3
     clear ho1 hb2 hb3 e0 e1
     go_wp2
     go_roundw
     case rel => exact ⟨k + 1, by omega, by go_num, by rw [DS.out], by rw [DS.out, List.length_append, List.length_append]; exact ho2, hb4⟩
     case measure => simp [intOf]; omega
    ·have DS : Hid _ := hds.trans (cc2 rfl hc)
     have hq : (kOf l k != x) = false := by rw [bne_eq_false_iff_eq]; exact hc
     have hge : x ≤ kOf l k := by omega
     clear hds cc1 cc2 cc3 cc4 cc5 hc
     go_wp2_with (at_builtin; refine app_one wr rfl _ _ 49 rfl w.heap.size 76 i0 _ 2 16 Try.underlying49 hi hz0 hz1 hz2 rfl (by decide) u7 _ _ rfl hown [.int .i64 x, .int .i64 y] rfl rfl (two_one _ _) HR.out.1 HR.out.2 hbs ?_)
     intro v1 w1 ho1 _ hb1
     rw [flatP_snoc] at ho1
     have hb2 := hb.trans hb1
     have e0 := (hb1.cell (p := ⟨b, off + k * 2, none⟩) hbw).trans d0
     clear d0 d1 hown hb hb1 hbs
     go_wp2
     go_roundw
     case rel => exact ⟨k + 1, by omega, by go_num, by rw [DS.out], by rw [DS.out, List.length_append]; exact ho1, hb2⟩
     case measure => simp [intOf]; omega
    ·have DS : Hid _ := hds.trans (cc3 rfl hc)
     have hq : (kOf l k != x) = true := by rw [bne_iff_ne]; omega
     clear hds cc1 cc2 cc3 cc4 cc5
     go_wp2_with (at_builtin; refine app_one wr rfl _ _ 49 rfl w.heap.size 76 i0 _ 2 16 Try.underlying49 hi hz0 hz1 hz2 rfl (by decide) u7 _ _ rfl hown [.int .i64 (kOf l k), .int .i64 (vOf l k)] rfl rfl (two_one _ _) HR.out.1 HR.out.2 hbs ?_)
     intro v1 w1 ho1 _ hb1
     rw [flatP_snoc] at ho1
     have hb2 := hb.trans hb1
     clear d0 d1 hown hb hb1 hbs
     go_wp2
     go_roundw
     case rel => exact ⟨k + 1, by omega, by go_num, by rw [DS.out], by rw [DS.out, List.length_append]; exact ho1, hb2⟩
     case measure => simp [intOf]; omega
   ·by_cases hc : kOf l k = x
    ·have DS : Hid _ := hds.trans (cc5 rfl hc)
     have hq : (kOf l k != x) = false := by rw [bne_eq_false_iff_eq]; exact hc
     clear hds cc1 cc2 cc3 cc4 cc5 hc
     have OW : Hid _ := hown
     clear hown
     go_wp2
     go_roundw
     case rel => exact ⟨k + 1, by omega, by go_num, by rw [DS.out], by rw [DS.out]; exact OW.out, hb⟩
     case measure => simp [intOf]; omega
    ·have DS : Hid _ := hds.trans (cc4 rfl hc)
     have hq : (kOf l k != x) = true := by rw [bne_iff_ne]; exact hc
     clear hds cc1 cc2 cc3 cc4 cc5
     go_wp2_with (at_builtin; refine app_one wr rfl _ _ 49 rfl w.heap.size 76 i0 _ 2 16 Try.underlying49 hi hz0 hz1 hz2 rfl (by decide) u7 _ _ rfl hown [.int .i64 (kOf l k), .int .i64 (vOf l k)] rfl rfl (two_one _ _) HR.out.1 HR.out.2 hbs ?_)
     intro v1 w1 ho1 _ hb1
     rw [flatP_snoc] at ho1
     have hb2 := hb.trans hb1
     clear d0 d1 hown hb hb1 hbs
     go_wp2
     go_roundw
     case rel => exact ⟨k + 1, by omega, by go_num, by rw [DS.out], by rw [DS.out, List.length_append]; exact ho1, hb2⟩
     case measure => simp [intOf]; omega
  ·have hkk : k = l.length := by omega
   subst hkk
   have hdl := stpTo_length x y l l.length
   generalize hS : stpTo x y l l.length = S at *
   clear hS
   have HR : Hid _ := room_of (n := S.1.length) (bytes := 16) (by omega) (by decide)
   obtain ⟨D, fl⟩ := S
   simp only at hown HR
   cases fl
   ·go_wp2_with (at_builtin; refine app_one wr rfl _ _ 49 rfl w.heap.size 76 i0 _ 2 16 Try.underlying49 hi hz0 hz1 hz2 rfl (by decide) u7 _ _ rfl hown [.int .i64 x, .int .i64 y] rfl rfl (two_one _ _) HR.out.1 HR.out.2 hbs ?_)
    intro v1 w1 ho1 _ hb1
    rw [flatP_snoc] at ho1
    have hb2 := hb.trans hb1
    clear hown hb hb1 hbs
    go_wp2
    go_ret
    have e : putF l x y = D ++ [(x, y)] := by rw [← FULL.out]; rfl
    exact ⟨_, rfl, by rw [e, List.length_append]; exact ho1, hb2⟩
   ·have OW : Hid _ := hown
    clear hown
    go_wp2
    go_ret
    have e : putF l x y = D := by rw [← FULL.out]; rfl
    exact ⟨_, rfl, by rw [e]; exact OW.out, hb⟩
end
section
open Go.RowKit

theorem okAt_false_k {l : List (Int × Int)} {k : Nat} (h : inB (kOf l k) 0 999 = false) : okAt l k = false := by simp [okAt, h]
theorem okAt_false_v {l : List (Int × Int)} {k : Nat} (h : inB (vOf l k) (-1000000000) 1000000000 = false) : okAt l k = false := by simp [okAt, h]
theorem okAt_zero {l : List (Int × Int)} (h : inB (kOf l 0) 0 999 = true) (h' : inB (vOf l 0) (-1000000000) 1000000000 = true) : okAt l 0 = true := by simp [okAt, h, h']
theorem okAt_succ {l : List (Int × Int)} {k : Nat} (h : inB (kOf l (k + 1)) 0 999 = true) (h' : inB (vOf l (k + 1)) (-1000000000) 1000000000 = true) (hlt : kOf l k < kOf l (k + 1)) : okAt l (k + 1) = true := by simp [okAt, h, h', hlt]
theorem okAt_false_lt {l : List (Int × Int)} {k : Nat} (hlt : kOf l (k + 1) ≤ kOf l k) : okAt l (k + 1) = false := by
 have : ¬ kOf l k < kOf l (k + 1) := by omega
 simp [okAt, this]

theorem specMapOk_any (v : Value) (l : List (Int × Int)) (w : World) (h : Row w v l.length (flatP l)) :
  Calls Try.prog 65 #[v] w fun e w' => e = .returned (.bool (mapOkB l)) ∧ Below w.heap.size w w' := by
 obtain ⟨a, b, off, cap, rfl, hcap, hmax, ha, hk, hv⟩ := h.pairs
 unfold maxLen at hmax
 go_enter Try.func65, Try.ntmps65
 go_wp2
 go_loopw [3] (fun i wr => ∃ k : Nat, k ≤ l.length ∧ i = .int .i64 k ∧ (∀ i, i < k → okAt l i = true) ∧ Below w.heap.size w wr)
  (fun i _ => l.length - (intOf i).toNat)
 case atStart => exact ⟨0, Nat.zero_le _, rfl, fun i hi => absurd hi (Nat.not_lt_zero _), Below.refl _ _⟩
 case round =>
  obtain ⟨k, hkl, rfl, hall, hb⟩ := hrel
  have ALL : Hid (∀ i, i < k → okAt l i = true) := hall
  clear hall
  by_cases hlt : k < l.length
  ·have hal := ha (by omega)
   subst hal
   have d0 : wr.cell? ⟨b, off + k * 2, none⟩ = some (.int .i64 (kOf l k)) := (hb.cell (by exact cell_lt (hk k hlt))).trans (hk k hlt)
   have d1 : wr.cell? ⟨b, off + k * 2 + 1, none⟩ = some (.int .i64 (vOf l k)) := (hb.cell (by exact cell_lt (hv k hlt))).trans (hv k hlt)
   cases hK : inB (kOf l k) 0 999
   ·have NE : Hid (mapOkB l = false) := mapOkB_false hlt (okAt_false_k hK)
    clear hk hv
    go_wp2_with fail
    go_quiet ((go_at_call 16; exact Calls.quiet_of_same (l1In_any _ _ _ _)))
    go_wp2
    go_ret
    exact ⟨ret_bool NE.out.symm, below_drewN hb _⟩
   ·cases hV : inB (vOf l k) (-1000000000) 1000000000
    ·have NE : Hid (mapOkB l = false) := mapOkB_false hlt (okAt_false_v hV)
     clear hk hv
     go_wp2_with fail
     go_quiet (first | (go_at_call 16; exact Calls.quiet_of_same (l1In_any _ _ _ _)) | (go_at_call 56; exact Calls.quiet_of_same (l1Value_any _ _)))
     go_wp2
     go_ret
     exact ⟨ret_bool NE.out.symm, below_drewN hb _⟩
    ·cases k with
     | zero =>
      have OK : Hid (okAt l 0 = true) := okAt_zero hK hV
      simp only [Nat.zero_mul, Nat.add_zero] at d0 d1
      clear hk hv
      go_wp2_with fail
      go_quiet (first | (go_at_call 16; exact Calls.quiet_of_same (l1In_any _ _ _ _)) | (go_at_call 56; exact Calls.quiet_of_same (l1Value_any _ _)))
      go_wp2
      go_roundw
      case rel => exact ⟨1, by omega, by go_num, fun i hi => by rw [show i = 0 by omega]; exact OK.out, below_drewN hb _⟩
      case measure => simp [intOf]; omega
     | succ k =>
      have hpos : (0 : Int) < ((k + 1 : Nat) : Int) := by omega
      have d2 : wr.cell? ⟨b, off + k * 2, none⟩ = some (.int .i64 (kOf l k)) := (hb.cell (by exact cell_lt (hk k (by omega)))).trans (hk k (by omega))
      clear hk hv
      by_cases hord : kOf l k < kOf l (k + 1)
      ·have OK : Hid (okAt l (k + 1) = true) := okAt_succ hK hV hord
       go_wp2_with fail
       go_quiet (first | (go_at_call 16; exact Calls.quiet_of_same (l1In_any _ _ _ _)) | (go_at_call 56; exact Calls.quiet_of_same (l1Value_any _ _)))
       go_wp2
       go_roundw
       case rel => exact ⟨k + 1 + 1, by omega, by go_num, fun i hi => if h : i < k + 1 then ALL.out i h else by rw [show i = k + 1 by omega]; exact OK.out, below_drewN hb _⟩
       case measure => simp [intOf]; omega
      ·have NE : Hid (mapOkB l = false) := mapOkB_false hlt (okAt_false_lt (by omega))
       go_wp2_with fail
       go_quiet (first | (go_at_call 16; exact Calls.quiet_of_same (l1In_any _ _ _ _)) | (go_at_call 56; exact Calls.quiet_of_same (l1Value_any _ _)))
       go_wp2
       go_ret
       exact ⟨ret_bool NE.out.symm, below_drewN hb _⟩
  ·go_wp2
   go_ret
   exact ⟨ret_bool (mapOkB_true (fun i hi => ALL.out i (by omega))).symm, hb⟩
end
section
open Go.RowKit

theorem ret_two {a b : Int} {c d : Bool} {q : Int × Bool} (h : q = (a, c)) (h2 : b = a) (h3 : d = c) : Ending.returned (.tuple #[.int .i64 b, .bool d]) = .returned (.tuple #[.int .i64 q.1, .bool q.2]) := by rw [h, h2, h3]

theorem specMapGet_any (v : Value) (l : List (Int × Int)) (x : Int) (w : World) (h : Row w v l.length (flatP l)) :
  Calls Try.prog 72 #[v, .int .i64 x] w fun e w' => e = .returned (.tuple #[.int .i64 (getP l x).1, .bool (getP l x).2]) ∧ w' = w := by
 obtain ⟨a, b, off, cap, rfl, hcap, hmax, ha, hk, hv⟩ := h.pairs
 unfold maxLen at hmax
 go_enter Try.func72, Try.ntmps72
 go_wp2
 go_loop [6] (fun i => ∃ k : Nat, k ≤ l.length ∧ i = .int .i64 k ∧ (∀ j, j < k → kOf l j ≠ x))
  (fun i => l.length - (intOf i).toNat)
 case atStart => exact ⟨0, Nat.zero_le _, rfl, fun i hi => absurd hi (Nat.not_lt_zero _)⟩
 case round =>
  obtain ⟨k, hkl, rfl, hall⟩ := hrel
  have ALL : Hid (∀ j, j < k → kOf l j ≠ x) := hall
  clear hall
  by_cases hlt : k < l.length
  ·have hal := ha (by omega)
   subst hal
   have d0 := hk k hlt
   have d1 := hv k hlt
   by_cases hx : kOf l k = x
   ·have G : Hid (getP l x = (vOf l k, true)) := getP_hit hlt ALL.out hx
    have hq : (kOf l k == x) = true := by simpa using hx
    clear hk hv hx
    go_wp2
    go_ret2
    exact ⟨ret_two G.out rfl rfl, rfl⟩
   ·have hq : (kOf l k == x) = false := by simpa using hx
    have HX : Hid (kOf l k ≠ x) := hx
    clear hk hv hx
    go_wp2
    go_round
    case rel => exact ⟨k + 1, by omega, by go_num, fun i hi => if h : i < k then ALL.out i h else by rw [show i = k by omega]; exact HX.out⟩
    case measure => simp [intOf]; omega
  ·have G : Hid (getP l x = (0, false)) := getP_none (fun j hj => ALL.out j (by omega))
   go_wp2
   go_ret2
   exact ⟨ret_two G.out rfl rfl, rfl⟩
end
section
open Go.RowKit

theorem owns_val {w : World} {base e size n : Nat} {v : Value} {xs : List Value} (h : w.ownsRow base e size v n xs) : ∃ a cap, v = .slice a n cap := by
 obtain ⟨_, ⟨rfl, rfl⟩ | ⟨g, cap, cur, rfl, _⟩⟩ := h
 ·exact ⟨none, 0, rfl⟩
 ·exact ⟨_, _, rfl⟩
theorem owns_lt {w : World} {base e size n : Nat} {v : Value} {xs : List Value} (h : w.ownsRow base e size v n xs) {g : Nat} (hg : v.ownBlock = some g) : g < w.heap.size ∧ ∃ cur, w.heap[g]? = some (.cells cur e (0, 0)) := by
 obtain ⟨_, ⟨rfl, rfl⟩ | ⟨g', cap, cur, rfl, _, hh, _⟩⟩ := h
 ·simp [Value.ownBlock] at hg
 ·simp only [Value.ownBlock, Option.some.injEq] at hg
  subst hg
  exact ⟨(Array.getElem?_eq_some_iff.1 hh).1, cur, hh⟩

def keysAfter (ks : List Int) (k : Int) : List Int := if ks.contains k then ks else ks.take (ks.countP (· < k)) ++ k :: ks.drop (ks.countP (· < k))
def valsAfter (ks vs : List Int) (k v : Int) : List Int := if ks.contains k then vs.set (ks.countP (· < k)) v else vs.take (ks.countP (· < k)) ++ v :: vs.drop (ks.countP (· < k))

def getS (ks vs : List Int) (k : Int) : Int × Bool := if ks.contains k then (vs.getD (ks.countP (· < k)) 0, true) else (0, false)
end
section
open Go.RowKit

theorem flatP_cons (p : Int × Int) (l : List (Int × Int)) : flatP (p :: l) = .int .i64 p.1 :: .int .i64 p.2 :: flatP l := rfl
theorem flatP_set (l : List (Int × Int)) (a b : Int) : ∀ i, i < l.length → ((flatP l).set (i * 2) (.int .i64 a)).set (i * 2 + 1) (.int .i64 b) = flatP (l.set i (a, b)) := by
 induction l with
 | nil => intro i h; simp at h
 | cons p l ih =>
  intro i h
  cases i with
  | zero => simp [flatP_cons]
  | succ i =>
   have := ih i (by simpa using h)
   rw [flatP_cons, List.set_cons_succ, flatP_cons, show (i + 1) * 2 = i * 2 + 1 + 1 by omega, List.set_cons_succ, List.set_cons_succ, List.set_cons_succ, List.set_cons_succ, this]

def marksP (k : Int) (n : Nat) : List (Int × Int) := (List.range n).map fun (i : Nat) => (k + 2 * i, k + 2 * i + 1)
def midP (k : Int) (l : List (Int × Int)) (i : Nat) : List (Int × Int) := marksP k i ++ l.drop i
end
section
open Go.RowKit

abbrev ML := List (Int × Int × Int)
def mO (l : ML) (i : Nat) : Int := (l.getD i (0, 0, 0)).1
def mK (l : ML) (i : Nat) : Int := (l.getD i (0, 0, 0)).2.1
def mV (l : ML) (i : Nat) : Int := (l.getD i (0, 0, 0)).2.2
theorem ml_at (l : ML) (i : Nat) (h : i < l.length) : l[i] = (mO l i, mK l i, mV l i) := by simp [mO, mK, mV, List.getD, h]
theorem take_succM (l : ML) (k : Nat) (hk : k < l.length) : l.take (k + 1) = l.take k ++ [(mO l k, mK l k, mV l k)] := by
 rw [List.take_succ_eq_append_getElem hk, ml_at l k hk]

def flatM (l : ML) : List Value := l.flatMap fun m => [.int .i64 m.1, .int .i64 m.2.1, .int .i64 m.2.2]
theorem flatM_cons (m : Int × Int × Int) (l : ML) : flatM (m :: l) = .int .i64 m.1 :: .int .i64 m.2.1 :: .int .i64 m.2.2 :: flatM l := rfl
theorem flatM_append (l m : ML) : flatM (l ++ m) = flatM l ++ flatM m := by simp [flatM, List.flatMap_append]
theorem flatM_length (l : ML) : (flatM l).length = l.length * 3 := by
 induction l with
 | nil => rfl
 | cons a l ih => rw [flatM_cons]; simp only [List.length_cons]; omega
theorem flatM_at (l : ML) : ∀ i, i < l.length → (flatM l)[i * 3]? = some (.int .i64 (mO l i)) ∧ (flatM l)[i * 3 + 1]? = some (.int .i64 (mK l i)) ∧ (flatM l)[i * 3 + 2]? = some (.int .i64 (mV l i)) := by
 induction l with
 | nil => intro i h; simp at h
 | cons a l ih =>
  intro i h
  cases i with
  | zero => simp [flatM_cons, mO, mK, mV]
  | succ i =>
   have := ih i (by simpa using h)
   have e1 : (i + 1) * 3 = i * 3 + 1 + 1 + 1 := by omega
   have e2 : (i + 1) * 3 + 1 = (i * 3 + 1) + 1 + 1 + 1 := by omega
   have e3 : (i + 1) * 3 + 2 = (i * 3 + 2) + 1 + 1 + 1 := by omega
   rw [e3, e2, e1, flatM_cons]
   simpa [mO, mK, mV] using this
theorem flatM_set (l : ML) (a b c : Int) : ∀ i, i < l.length → (((flatM l).set (i * 3) (.int .i64 a)).set (i * 3 + 1) (.int .i64 b)).set (i * 3 + 2) (.int .i64 c) = flatM (l.set i (a, b, c)) := by
 induction l with
 | nil => intro i h; simp at h
 | cons p l ih =>
  intro i h
  cases i with
  | zero => simp [flatM_cons]
  | succ i =>
   have := ih i (by simpa using h)
   rw [flatM_cons, List.set_cons_succ, flatM_cons, show (i + 1) * 3 + 2 = (i * 3 + 2) + 1 + 1 + 1 by omega, show (i + 1) * 3 = i * 3 + 1 + 1 + 1 by omega]
   simp only [List.set_cons_succ]
   rw [this]

theorem Row.msgs {w : World} {v : Value} {l : ML} (h : Row w v l.length (flatM l)) :
  ∃ (a : Option Addr) (b off cap : Nat), v = .slice a l.length cap ∧ l.length ≤ cap ∧ cap ≤ maxLen ∧ (0 < l.length → a = some ⟨b, off, none⟩) ∧
   (∀ i, i < l.length → w.cell? ⟨b, off + i * 3, none⟩ = some (.int .i64 (mO l i))) ∧ (∀ i, i < l.length → w.cell? ⟨b, off + i * 3 + 1, none⟩ = some (.int .i64 (mK l i))) ∧ (∀ i, i < l.length → w.cell? ⟨b, off + i * 3 + 2, none⟩ = some (.int .i64 (mV l i))) := by
 obtain ⟨a, b, off, cap, h1, h2, h3, h4, h5, _⟩ := h
 exact ⟨a, b, off, cap, h1, h2, h3, h4, fun i hi => h5 _ _ (flatM_at l i hi).1, fun i hi => h5 _ _ (flatM_at l i hi).2.1, fun i hi => h5 _ _ (flatM_at l i hi).2.2⟩

def eqMsgB (a b c a' b' c' : Int) : Bool := decide (a = a' ∧ b = b' ∧ c = c')
theorem Try.info73 : (Try.prog.info? 73).map (fun i => (i.zero, i.size, i.bytes)) = some (some (.agg #[.int .i64 0, .int .i64 0, .int .i64 0]), 3, 24) := by kernel_rfl

def filledM (l : ML) (k : Nat) : ML := l.take k ++ List.replicate (l.length - k) (0, 0, 0)
end
section
open Go.RowKit

theorem getP_in {l : PL} (h : MapP l) (k : Int) : -1000000000 ≤ (getP l k).1 ∧ (getP l k).1 ≤ 1000000000 := by
 have hh : ∀ l : PL, (∀ p ∈ l, PairIn p) → -1000000000 ≤ (getP l k).1 ∧ (getP l k).1 ≤ 1000000000 := by
  intro l
  induction l with
  | nil => intro _; simp [getP]
  | cons p l ih =>
   intro h
   rw [getP]
   split
   ·exact (h p (by simp)).2
   ·exact ih (fun q hq => h q (by simp [hq]))
 exact hh l h.2

theorem wrap_small (x : Int) (h1 : -4000000000 ≤ x) (h2 : x ≤ 4000000000) : IntKind.i64.wrap x = x := by rw [IntKind.wrap_i64]; omega
theorem room_row {n bytes : Nat} (h : n ≤ 8388608) (hb : bytes ≤ 256) : 0 + n ≤ maxLen ∧ (0 + n) * bytes ≤ 140737488355328 := by
 refine ⟨by unfold maxLen; omega, ?_⟩
 have : (0 + n) * bytes ≤ (0 + n) * 256 := Nat.mul_le_mul_left _ hb
 omega

theorem doL_bad {l : PL} {o k v : Int} (h : mapOkB l = false ∨ msgOkB o k v = false) : doL l (o, k, v) = l := by
 unfold doL
 rw [if_neg]
 rintro ⟨h1, h2⟩
 rcases h with h | h
 ·rw [h] at h1; cases h1
 ·simp only at h2; rw [h] at h2; cases h2
theorem doL_ok {l : PL} {o k v : Int} (h1 : mapOkB l = true) (h2 : msgOkB o k v = true) : doL l (o, k, v) = doP l (o, k, v) := by
 unfold doL; rw [if_pos ⟨h1, h2⟩]

theorem specMapDo_any (va : Value) (l : PL) (o k v : Int) (w : World) (h : Row w va l.length (flatP l)) (hn : l.length ≤ 2097152) :
  Calls Try.prog 67 #[va, .agg #[.int .i64 o, .int .i64 k, .int .i64 v]] w fun e w' => ∃ v', e = .returned v' ∧ w'.ownsRow w.heap.size 76 2 v' (doL l (o, k, v)).length (flatP (doL l (o, k, v))) ∧ Below w.heap.size w w' := by
 obtain ⟨i0, hi, hz0, hz1, hz2⟩ := info_parts Try.info76
 have b0 : Below w.heap.size w (w.alloc (.cells #[.int .i64 o, .int .i64 k, .int .i64 v] 73)) := (Below.refl _ _).alloc (Nat.le_refl _) _
 have RW : Hid (Row w va l.length (flatP l)) := h
 have HR : Hid _ := room_row (n := l.length) (bytes := 16) (by omega) (by decide)
 obtain ⟨a, b, off, cap, hva, _⟩ := h.pairs
 cases hM : mapOkB l
 ·have E : Hid (doL l (o, k, v) = l) := doL_bad (Or.inl hM)
  clear h hva
  go_enter Try.func67, Try.ntmps67
  go_wp2_with fail
  refine (specMapOk_any va l _ (RW.out.below b0)).mono ?_
  rw [hM]
  rintro e w1 ⟨rfl, b1⟩
  have B1 : Below w.heap.size w w1 := Below.and b0 b1
  have B1s := B1.size
  have R1 : Row w1 va l.length (flatP l) := (RW.out.below b0).below b1
  have RR : Hid (Row w1 va l.length (flatP l)) := R1
  clear b0 b1 R1 hM
  have Hb : Hid (w.heap.size ≤ (w1.alloc (.cells #[] 76)).heap.size) := by show _ ≤ _; simp; omega
  go_wp2_with (at_builtin; refine app_row (w1.alloc (.cells #[] 76)) rfl _ _ 49 rfl w.heap.size 76 i0 _ 2 16 Try.underlying49 hi hz0 hz1 hz2 rfl (by decide) (.slice (some ⟨w1.heap.size, 0, none⟩) 0 0) 0 [] rfl (empty_own w1 w.heap.size 76 2 B1s) va l.length (flatP l) rfl (RR.out.below ((Below.refl _ _).alloc (Nat.le_refl _) _)) (flatP_length _) (flatP_one _) HR.out.1 HR.out.2 Hb.out ?_)
  intro v' w2 ho2 _ hb2
  have B2 : Below w.heap.size w w2 := (B1.alloc B1s _).trans hb2
  clear hb2 B1
  go_wp2
  go_ret
  rw [E.out]
  exact ⟨_, rfl, by simpa using ho2, B2⟩
 ·have hmp : MapP l := (mapOkB_iff l).1 hM
  cases hG : msgOkB o k v
  ·have E : Hid (doL l (o, k, v) = l) := doL_bad (Or.inr hG)
   clear h hva
   go_enter Try.func67, Try.ntmps67
   go_wp2_with fail
   refine (specMapOk_any va l _ (RW.out.below b0)).mono ?_
   rw [hM]
   rintro e w1 ⟨rfl, b1⟩
   have B1 : Below w.heap.size w w1 := Below.and b0 b1
   obtain ⟨hc, _⟩ := bcell b1
   have R1 : Row w1 va l.length (flatP l) := (RW.out.below b0).below b1
   have RR : Hid (Row w1 va l.length (flatP l)) := R1
   have B1' : Hid _ := B1
   clear b0 b1 R1 hM B1 hmp
   go_wp2_with fail
   refine (specMsgOk_any _ _ _ _).mono ?_
   rw [hG]
   rintro e w2 ⟨rfl, b2⟩
   have B2 : Below w.heap.size w w2 := Below.and B1'.out b2
   have R2 : Hid (Row w2 va l.length (flatP l)) := RR.out.below b2
   have B2s := B2.size
   clear hc b2 hG
   have Hb : Hid (w.heap.size ≤ (w2.alloc (.cells #[] 76)).heap.size) := by show _ ≤ _; simp; omega
   go_wp2_with (at_builtin; refine app_row (w2.alloc (.cells #[] 76)) rfl _ _ 49 rfl w.heap.size 76 i0 _ 2 16 Try.underlying49 hi hz0 hz1 hz2 rfl (by decide) (.slice (some ⟨w2.heap.size, 0, none⟩) 0 0) 0 [] rfl (empty_own w2 w.heap.size 76 2 B2s) va l.length (flatP l) rfl (R2.out.below ((Below.refl _ _).alloc (Nat.le_refl _) _)) (flatP_length _) (flatP_one _) HR.out.1 HR.out.2 Hb.out ?_)
   intro v' w3 ho3 _ hb3
   have B3 : Below w.heap.size w w3 := (B2.alloc B2s _).trans hb3
   clear hb3 B2
   go_wp2
   go_ret
   rw [E.out]
   exact ⟨_, rfl, by simpa using ho3, B3⟩
  ·have E : Hid (doL l (o, k, v) = doP l (o, k, v)) := doL_ok hM hG
   obtain ⟨⟨ho1, ho4⟩, ⟨hk0, hk9⟩, hv0, hv9⟩ := msgOkB_in hG
   obtain ⟨hg0, hg9⟩ := getP_in hmp k
   have ASC : Hid (Asc l) := hmp.1
   clear h hva
   go_enter Try.func67, Try.ntmps67
   go_wp2_with fail
   refine (specMapOk_any va l _ (RW.out.below b0)).mono ?_
   rw [hM]
   rintro e w1 ⟨rfl, b1⟩
   have B1 : Below w.heap.size w w1 := Below.and b0 b1
   obtain ⟨hc, _⟩ := bcell b1
   have R1 : Row w1 va l.length (flatP l) := (RW.out.below b0).below b1
   have RR : Hid (Row w1 va l.length (flatP l)) := R1
   have B1' : Hid (Below w.heap.size w w1) := B1
   have b1' : Hid _ := b1
   clear b1 R1 hM B1 hmp
   go_wp2_with fail
   refine (specMsgOk_any _ _ _ _).mono ?_
   rw [hG]
   rintro e w2 ⟨rfl, b2⟩
   have B2 : Below w.heap.size w w2 := Below.and B1'.out b2
   have R2 : Hid (Row w2 va l.length (flatP l)) := RR.out.below b2
   have b3 := Below.and b1'.out b2
   obtain ⟨hc3, _⟩ := bcell b3
   have B2' : Hid (Below w.heap.size w w2) := B2
   clear hc b2 hG b1' B1' RR b3 B2 b0
   go_wp2_with fail
   refine (specMapGet_any _ l _ _ R2.out).mono ?_
   rintro e w3 ⟨rfl, rfl⟩
   generalize hgp : getP l k = G at *
   obtain ⟨g, gb⟩ := G
   simp only at hg0 hg9
   rcases (show o = 1 ∨ o = 2 ∨ o = 3 ∨ o = 4 from by omega) with rfl | rfl | rfl | rfl
   ·have E2 : Hid (doP l (1, k, v) = putF l k v) := by show doP _ _ = _; simp [doP]
    clear hgp
    go_wp2_with fail
    refine (l1Put_any _ l _ _ _ R2.out hn ASC.out).mono ?_
    rintro e w4 ⟨v', rfl, o4, b4⟩
    go_wp2
    go_ret
    rw [E.out, E2.out]
    exact ⟨_, rfl, owns_mono o4 B2'.out.size, Below.and B2'.out b4⟩
   ·have E2 : Hid (doP l (2, k, v) = delF l k) := by show doP _ _ = _; simp [doP]
    clear hgp
    go_wp2_with fail
    refine (l1Without_any _ l _ _ R2.out (by omega)).mono ?_
    rintro e w4 ⟨v', rfl, o4, b4⟩
    go_wp2
    go_ret
    rw [E.out, E2.out]
    exact ⟨_, rfl, owns_mono o4 B2'.out.size, Below.and B2'.out b4⟩
   ·have E2 : Hid (doP l (3, k, v) = putF l k (clampI (g + v))) := by show doP _ _ = _; simp [doP, hgp]
    have hw : IntKind.i64.wrap (g + v) = g + v := wrap_small _ (by omega) (by omega)
    clear hgp
    go_wp2_with fail
    go_region_with (first | (go_at_call 70; refine (l1Clamp_any _ _).mono ?_; rintro e w' ⟨rfl, rfl⟩) | (go_at_call 73; refine (l1Put_any _ l _ _ _ (R2.out.below (by exact (Below.refl _ _).drew)) hn ASC.out).mono ?_; rintro e w4 ⟨v', rfl, o4, b4⟩))
    all_goals
     go_wp2
     go_ret
     rw [E.out, E2.out]
     exact ⟨_, rfl, owns_mono o4 B2'.out.size, B2'.out.drew.trans (b4.mono B2'.out.size)⟩
   ·have E2 : Hid (doP l (4, k, v) = l) := by show doP _ _ = _; simp [doP]
    clear hgp
    have B2s := B2'.out.size
    have Hb : Hid (w.heap.size ≤ (w3.alloc (.cells #[] 76)).heap.size) := by show _ ≤ _; simp; omega
    go_wp2_with (at_builtin; refine app_row (w3.alloc (.cells #[] 76)) rfl _ _ 49 rfl w.heap.size 76 i0 _ 2 16 Try.underlying49 hi hz0 hz1 hz2 rfl (by decide) (.slice (some ⟨w3.heap.size, 0, none⟩) 0 0) 0 [] rfl (empty_own w3 w.heap.size 76 2 B2s) va l.length (flatP l) rfl (R2.out.below ((Below.refl _ _).alloc (Nat.le_refl _) _)) (flatP_length _) (flatP_one _) HR.out.1 HR.out.2 Hb.out ?_)
    intro v' w4 ho3 _ hb3
    have B3 : Below w.heap.size w w4 := (B2'.out.alloc B2s _).trans hb3
    clear hb3
    go_wp2
    go_ret
    rw [E.out, E2.out]
    exact ⟨_, rfl, by simpa using ho3, B3⟩
end
end Go.Proofs.Ytekcnibohikmdaa
