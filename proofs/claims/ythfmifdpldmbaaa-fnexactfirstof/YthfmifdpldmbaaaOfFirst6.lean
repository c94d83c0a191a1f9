/-
  Logs in memory: the laws' own functions on them (szLog, toLog, eqLog).
  Lists of truths: the laws' functions on them.
  Nodes in memory: the laws' own functions that measure and compare them.
-/
import Derived.Test.YthfmifdpldmbaaaOfFirst5
import Derived.Test.YthfmifdpldmbaaaOfFirst4
import Derived.Test.YthfmifdpldmbaaaOfFirst1
import Derived.Deep.QuietTactic
import Derived.BigQuiet
namespace Go.Proofs.Ythfmifdpldmbaaa
set_option maxRecDepth 100000
set_option maxHeartbeats 8000000
section
open Go.RowKit

abbrev lgV (b t : Int) (v : Value) : Value := .agg #[.int .i64 b, .int .i64 t, v]

theorem szLog_any (b t : Int) (v : Value) (l : EL) (left : Int) (w : World) (h : Row w v l.length (flatE l)) (h0 : 0 ≤ left) (h1 : left ≤ 1048576) :
  Calls Try.prog 39 #[lgV b t v, .int .i64 left] w fun e w' => e = .returned (.int .i64 (if (l.length : Int) ≤ left then left - l.length else -1)) ∧ Below w.heap.size w w' := by
 obtain ⟨a, bb, off, cap, rfl, hcap, hmax, -⟩ := h.ents
 have B1 : Hid (Below w.heap.size w (w.alloc (.cells #[.int .i64 b, .int .i64 t, .slice a l.length cap] 68))) := bel_nw _ _
 have hn : l.length ≤ maxLen := by omega
 clear h hmax hcap
 generalize l.length = n at *
 by_cases hd : (n : Int) ≤ left
 ·have hn2 : ¬ (left - (n : Int) < 0) := by omega
  have E : Hid ((if (n : Int) ≤ left then left - n else -1) = left - n) := if_pos hd
  go_enter Try.func39, Try.ntmps39
  go_wp2_with fail
  refine Calls.mono (szEntryS_any a n cap left hn h0 h1 _) ?_
  rintro e w2 ⟨rfl, rfl⟩
  rw [E.out]
  go_wp2
  go_ret
  exact ⟨rfl, B1.out⟩
 ·have E : Hid ((if (n : Int) ≤ left then left - n else -1) = -1) := if_neg hd
  go_enter Try.func39, Try.ntmps39
  go_wp2_with fail
  refine Calls.mono (szEntryS_any a n cap left hn h0 h1 _) ?_
  rintro e w2 ⟨rfl, rfl⟩
  rw [E.out]
  go_wp2
  go_ret
  exact ⟨rfl, B1.out⟩

theorem eqLog_any (b t b2 t2 : Int) (v v2 : Value) (l l2 : EL) (w : World) (h : Row w v l.length (flatE l)) (h2 : Row w v2 l2.length (flatE l2)) :
  Calls Try.prog 50 #[lgV b t v, lgV b2 t2 v2] w fun e w' => e = .returned (.bool (decide (b = b2 ∧ t = t2 ∧ l = l2))) ∧ Below w.heap.size w w' := by
 have H : Hid _ := And.intro h h2
 have N1 : Hid (MBox 85 ((w.alloc (.cells #[.int .i64 b, .int .i64 t, v] 85)).alloc (.cells #[.int .i64 b2, .int .i64 t2, v2] 85)) w.heap.size #[.int .i64 b, .int .i64 t, v]) := (MBox.start _ _ _).step (bel_nw _ _)
 have N2 : Hid (MBox 85 ((w.alloc (.cells #[.int .i64 b, .int .i64 t, v] 85)).alloc (.cells #[.int .i64 b2, .int .i64 t2, v2] 85)) (w.alloc (.cells #[.int .i64 b, .int .i64 t, v] 85)).heap.size #[.int .i64 b2, .int .i64 t2, v2]) := MBox.start _ _ _
 have B2 : Hid (Below w.heap.size w ((w.alloc (.cells #[.int .i64 b, .int .i64 t, v] 85)).alloc (.cells #[.int .i64 b2, .int .i64 t2, v2] 85))) := Below.and (bel_nw _ _) (bel_nw _ _)
 have e1 : (w.alloc (.cells #[.int .i64 b, .int .i64 t, v] 85)).heap.size = w.heap.size + 1 := by simp
 rw [e1] at N2
 have c1 := N1.out.cells
 have d1 := N2.out.cells
 clear h h2 e1
 by_cases hb : b = b2
 ·by_cases ht : t = t2
  ·subst hb ht
   have E : Hid (decide (b = b ∧ t = t ∧ l = l2) = decide (l = l2)) := by show _ = _; simp
   go_enter Try.func50, Try.ntmps50
   go_wp2_with fail
   generalize (w.alloc (.cells #[.int .i64 b, .int .i64 t, v] 85)).alloc (.cells #[.int .i64 b, .int .i64 t, v2] 85) = W at *
   refine Calls.mono (eqEntryS_any v v2 l l2 W (H.out.1.below B2.out) (H.out.2.below B2.out)) ?_
   rintro e w2 ⟨rfl, b2⟩
   have B3 : Hid (Below w.heap.size w w2) := Below.and B2.out b2
   clear b2
   generalize hq : decide (l = l2) = q
   cases q
   ·have HQ : Hid (decide (l = l2) = false) := hq
    clear hq
    go_wp2
    go_ret
    exact ⟨ret_bool (E.out.trans HQ.out).symm, B3.out⟩
   ·have HQ : Hid (decide (l = l2) = true) := hq
    clear hq
    go_wp2
    go_ret
    exact ⟨ret_bool (E.out.trans HQ.out).symm, B3.out⟩
  ·have hs' : (t != t2) = true := by simpa using ht
   have E : Hid (decide (b = b2 ∧ t = t2 ∧ l = l2) = false) := by show _ = _; simp [ht]
   subst hb
   go_enter Try.func50, Try.ntmps50
   go_wp2_with fail
   go_ret
   exact ⟨ret_bool (by first | exact E.out.symm | rfl), B2.out⟩
 ·have hs' : (b != b2) = true := by simpa using hb
  have E : Hid (decide (b = b2 ∧ t = t2 ∧ l = l2) = false) := by show _ = _; simp [hb]
  go_enter Try.func50, Try.ntmps50
  go_wp2_with fail
  go_ret
  exact ⟨ret_bool (by first | exact E.out.symm | rfl), B2.out⟩

theorem lg_last {W : World} {R : Nat} {t : TypeId} {x0 x1 x2 : Value} (c : Value) (h : W.heap[R]? = some (.cells #[x0, x1, x2] t (0, 0))) : (W.setCell ⟨R, 2, none⟩ c).heap[R]? = some (.cells #[x0, x1, c] t (0, 0)) := by
 have h2 := heap_setCell_same _ R 2 _ _ c h
 simpa using h2
theorem lg_all {W : World} {R : Nat} {t : TypeId} {x0 x1 x2 : Value} (a b c : Value) (h : W.heap[R]? = some (.cells #[x0, x1, x2] t (0, 0))) : (((W.setCell ⟨R, 0, none⟩ a).setCell ⟨R, 1, none⟩ b).setCell ⟨R, 2, none⟩ c).heap[R]? = some (.cells #[a, b, c] t (0, 0)) := by
 have h0 := heap_setCell_same _ R 0 _ _ a h
 have h1 := heap_setCell_same _ R 1 _ _ b h0
 have h2 := heap_setCell_same _ R 2 _ _ c h1
 simpa using h2
theorem lg_last_chg (W : World) (R : Nat) (c : Value) : Chg (fun g => g = R) W (W.setCell ⟨R, 2, none⟩ c) := (Chg.refl (fun g => g = R) W).setAt R 2 rfl c
theorem lg_all_chg (W : World) (R : Nat) (a b c : Value) : Chg (fun g => g = R) W (((W.setCell ⟨R, 0, none⟩ a).setCell ⟨R, 1, none⟩ b).setCell ⟨R, 2, none⟩ c) :=
 (((Chg.refl (fun g => g = R) W).setAt R 0 rfl a).setAt R 1 rfl b).setAt R 2 rfl c

theorem toLog_any (b t : Int) (v : Value) (l : EL) (w : World) (h : Row w v l.length (flatE l)) (hl : l.length ≤ 1048576) :
  Calls Try.prog 44 #[lgV b t v] w fun e w' => ∃ v' : Value, e = .returned (lgV b t v') ∧ w'.ownsRow w.heap.size 136 6 v' l.length (flatE l) ∧ Below w.heap.size w w' := by
 have b0 : Below w.heap.size w (((w.alloc (.cells #[.int .i64 b, .int .i64 t, v] 68)).alloc (.cells #[.int .i64 0, .int .i64 0, .slice none 0 0] 85)).alloc (.cells #[.int .i64 b, .int .i64 t, .slice none 0 0] 85)) := (((Below.refl _ _).alloc (Nat.le_refl _) _).alloc (by simp) _).alloc (by simp; omega) _
 have n1 := MBox.step (MBox.start 85 (w.alloc (.cells #[.int .i64 b, .int .i64 t, v] 68)) #[.int .i64 0, .int .i64 0, .slice none 0 0]) (bel_nw _ (.cells #[.int .i64 b, .int .i64 t, .slice none 0 0] 85))
 have n2 := MBox.start 85 ((w.alloc (.cells #[.int .i64 b, .int .i64 t, v] 68)).alloc (.cells #[.int .i64 0, .int .i64 0, .slice none 0 0] 85)) #[.int .i64 b, .int .i64 t, .slice none 0 0]
 simp only [World.size_alloc] at n1 n2
 have zz : (((w.alloc (.cells #[.int .i64 b, .int .i64 t, v] 68)).alloc (.cells #[.int .i64 0, .int .i64 0, .slice none 0 0] 85)).alloc (.cells #[.int .i64 b, .int .i64 t, .slice none 0 0] 85)).heap.size = w.heap.size + 3 := by simp
 have H : Hid _ := And.intro h (And.intro b0 (And.intro n1 (And.intro n2 zz)))
 clear h b0 n1 n2 zz
 go_enter Try.func44, Try.ntmps44
 go_wp2_with fail
 generalize (((w.alloc (.cells #[.int .i64 b, .int .i64 t, v] 68)).alloc (.cells #[.int .i64 0, .int .i64 0, .slice none 0 0] 85)).alloc (.cells #[.int .i64 b, .int .i64 t, .slice none 0 0] 85)) = W at *
 obtain ⟨h, b0, n1, n2, zz⟩ := H.out
 clear H
 refine (toEntryS_any v l W (h.below b0) hl).mono ?_
 rintro e w3 ⟨v3, rfl, o3, b3⟩
 obtain ⟨a5, q5, hv3⟩ := owns_val o3
 subst hv3
 generalize hm5 : l.length = m5 at *
 have s1 := (b3.block _ (Array.getElem?_eq_some_iff.1 n1).1).trans n1
 have s2 := (b3.block _ (Array.getElem?_eq_some_iff.1 n2).1).trans n2
 have B3 := Below.and b0 b3
 have u2 := lg_last (.slice a5 m5 q5) s2
 have g3 := lg_last_chg w3 (w.heap.size + 1 + 1) (.slice a5 m5 q5)
 have u1 := row_chg s1 g3 (by omega)
 have o4 := owns_chg o3 g3 (fun g hg e => by have := (o3.lt g hg).1; omega)
 have B4 := B3.trans (g3.below (fun g _ hg => by omega) B3.size)
 have x1 := lg_all (.int .i64 b) (.int .i64 t) (.slice a5 m5 q5) u1
 have g5 := lg_all_chg (w3.setCell ⟨w.heap.size + 1 + 1, 2, none⟩ (.slice a5 m5 q5)) (w.heap.size + 1) (.int .i64 b) (.int .i64 t) (.slice a5 m5 q5)
 have o5 := owns_chg o4 g5 (fun g hg e => by have := (o4.lt g hg).1; omega)
 have B5 := B4.trans (g5.below (fun g _ hg => by omega) B4.size)
 have f2 : ∀ j, w3.frozen? ⟨w.heap.size + 1 + 1, j, none⟩ = false := fun j => frozen_of_cells s2
 have f3 : ∀ j, (w3.setCell ⟨w.heap.size + 1 + 1, 2, none⟩ (.slice a5 m5 q5)).frozen? ⟨w.heap.size + 1, j, none⟩ = false := fun j => frozen_of_cells u1
 have c2 : ∀ j, w3.cell? ⟨w.heap.size + 1 + 1, j, none⟩ = (#[.int .i64 b, .int .i64 t, .slice none 0 0] : Array Value)[j]? := fun j => cell_of_cells s2
 have c3 : ∀ j, (w3.setCell ⟨w.heap.size + 1 + 1, 2, none⟩ (.slice a5 m5 q5)).cell? ⟨w.heap.size + 1 + 1, j, none⟩ = (#[.int .i64 b, .int .i64 t, .slice a5 m5 q5] : Array Value)[j]? := fun j => cell_of_cells u2
 have c4 : ∀ j, (w3.setCell ⟨w.heap.size + 1 + 1, 2, none⟩ (.slice a5 m5 q5)).cell? ⟨w.heap.size + 1, j, none⟩ = (#[.int .i64 0, .int .i64 0, .slice none 0 0] : Array Value)[j]? := fun j => cell_of_cells u1
 have X1 : Hid _ := x1
 have K : Hid _ := And.intro (owns_mono (base' := w.heap.size) o5 (by omega)) B5
 clear s1 s2 B3 u2 g3 u1 o4 B4 x1 g5 o5 B5 o3 b3 n1 n2 b0 h zz
 go_wp2_with fail
 simp [bodyPost, results, Try.results44, go_sem, cell_of_cells X1.out]
 rw [hm5]
 exact K.out
end
section
open Go.RowKit

def flatL (l : List Bool) : List Value := l.map Value.bool
def bOf (l : List Bool) (i : Nat) : Bool := l.getD i false
theorem flatL_length (l : List Bool) : (flatL l).length = l.length := by simp [flatL]
theorem flatL_at (l : List Bool) (i : Nat) (h : i < l.length) : (flatL l)[i]? = some (.bool (bOf l i)) := by simp [flatL, bOf, List.getD, h]
theorem flatL_append (l m : List Bool) : flatL (l ++ m) = flatL l ++ flatL m := by simp [flatL]
theorem takeL_succ (l : List Bool) (k : Nat) (hk : k < l.length) : l.take (k + 1) = l.take k ++ [bOf l k] := by
 rw [List.take_succ_eq_append_getElem hk]; simp [bOf, List.getD, hk]
theorem Row.bools {w : World} {v : Value} {l : List Bool} (h : Row w v l.length (flatL l)) :
  ∃ (a : Option Addr) (b off cap : Nat), v = .slice a l.length cap ∧ l.length ≤ cap ∧ cap ≤ maxLen ∧ (0 < l.length → a = some ⟨b, off, none⟩) ∧
   (∀ i, i < l.length → w.cell? ⟨b, off + i, none⟩ = some (.bool (bOf l i))) := by
 obtain ⟨a, b, off, cap, h1, h2, h3, h4, h5, _⟩ := h
 exact ⟨a, b, off, cap, h1, h2, h3, h4, fun i hi => h5 _ _ (flatL_at l i hi)⟩
theorem extL {l1 l2 : List Bool} (hl : l1.length = l2.length) (h : ∀ i, i < l1.length → bOf l1 i = bOf l2 i) : l1 = l2 := by
 apply List.ext_getElem hl
 intro i h1 h2
 have := h i h1
 simpa [bOf, List.getD, h1, h2] using this

theorem Try.info4 : (Try.prog.info? 4).map (fun i => (i.zero, i.size, i.bytes)) = some (some (.bool false), 1, 1) := by kernel_rfl

def filledL (l : List Bool) (k : Nat) : List Value := flatL (l.take k) ++ List.replicate (l.length - k) (.bool false)
theorem filledL_full (l : List Bool) : filledL l l.length = flatL l := by simp [filledL]
theorem filledL_zero (l : List Bool) (k : Nat) (hk : k < l.length) : (filledL l k)[k]? = some (.bool false) := by
 have hl : (flatL (l.take k)).length = k := by rw [flatL_length]; simp; omega
 rw [filledL, List.getElem?_append_right (by omega), List.getElem?_replicate_of_lt (by omega)]
theorem filledL_step (l : List Bool) (k : Nat) (hk : k < l.length) : (filledL l k).set k (.bool (bOf l k)) = filledL l (k + 1) := by
 have hl : (flatL (l.take k)).length = k := by rw [flatL_length]; simp; omega
 obtain ⟨m, hm⟩ : ∃ m, l.length - k = m + 1 := ⟨l.length - k - 1, by omega⟩
 have hm2 : l.length - (k + 1) = m := by omega
 rw [filledL, filledL, takeL_succ l k hk, flatL_append, hm, hm2, List.replicate_succ]
 rw [List.set_append_right _ _ (by omega), hl, Nat.sub_self, List.set_cons_zero]
 simp [flatL]

theorem toBoolS_any (v : Value) (l : List Bool) (w : World) (hr : Row w v l.length (flatL l)) (hn : l.length ≤ 1048576) :
  Calls Try.prog 46 #[v] w fun e w' => ∃ v', e = .returned v' ∧ w'.ownsRow w.heap.size 4 1 v' l.length (flatL l) ∧ Below w.heap.size w w' := by
 obtain ⟨a, b, off, cap, rfl, hcap, hmax, ha, hk⟩ := hr.bools
 obtain ⟨i0, hi, hz0, hz1, hz2⟩ := info_parts Try.info4
 unfold maxLen at hmax
 go_enter Try.func46, Try.ntmps46
 go_wp2_with (at_make; refine wpList_make_full _ rfl _ _ 77 rfl w.heap.size 4 i0 _ 1 Try.underlying77 hi hz0 hz1 .i64 .i64 _ _ l.length rfl rfl rfl rfl ?c1 ?c2 ?c3 ?_)
 case c1 => rw [hz2]; omega
 case c2 => unfold maxLen; omega
 case c3 => exact Nat.le_refl _
 intro w0 hown0 hgrow0
 have hb0 : Below w.heap.size w w0 := (Below.refl _ _).grown hgrow0 (Nat.le_refl _) (fun k hk => by cases hk)
 clear hgrow0
 go_wp2
 go_loopw [4] (fun i wr => ∃ k : Nat, k ≤ l.length ∧ i = .int .i64 k ∧ wr.ownsRow w.heap.size 4 1 (.slice (some ⟨w.heap.size, 0, none⟩) l.length l.length) l.length (filledL l k) ∧ Below w.heap.size w wr)
  (fun i _ => l.length - (intOf i).toNat)
 case atStart => exact ⟨0, Nat.zero_le _, rfl, by rw [madeCells_all _ (.bool false) (by decide) (fun i hi => by match i, hi with | 0, _ => rfl)] at hown0; simpa [filledL, flatL] using hown0, hb0⟩
 case round =>
  obtain ⟨k, hkl, rfl, hown, hb⟩ := hrel
  clear hown0 hb0
  by_cases hlt : k < l.length
  ·have hal := ha (by omega)
   subst hal
   have c0 := hk k hlt
   have d0 : wr.cell? ⟨b, off + k, none⟩ = some (.bool (bOf l k)) := (hb.cell (by exact cell_lt c0)).trans c0
   have e0 := (hown.cellAt k (by omega)).trans (filledL_zero l k hlt)
   have f0 := hown.frozenAt k
   have st := (hown.stored k (.bool (bOf l k))).1
   rw [filledL_step l k hlt] at st
   have ST : Hid ((wr.setCell ⟨w.heap.size, k, none⟩ (.bool (bOf l k))).ownsRow w.heap.size 4 1 (.slice (some ⟨w.heap.size, 0, none⟩) l.length l.length) l.length (filledL l (k + 1))) := st
   have HB : Hid _ := hb
   clear hk c0 ha st hown hb
   go_wp2
   go_roundw
   case rel => exact ⟨k + 1, by omega, by go_num, ST.out, HB.out.setCell (Nat.le_refl _) _⟩
   case measure => simp [intOf]; omega
  ·go_wp2
   go_ret
   have hkk : k = l.length := by omega
   subst hkk
   rw [filledL_full] at hown
   exact ⟨_, rfl, hown, hb⟩

theorem eqBoolS_any (v1 v2 : Value) (l1 l2 : List Bool) (w : World) (h1 : Row w v1 l1.length (flatL l1)) (h2 : Row w v2 l2.length (flatL l2)) :
  Calls Try.prog 52 #[v1, v2] w fun e w' => e = .returned (.bool (decide (l1 = l2))) ∧ Below w.heap.size w w' := by
 obtain ⟨a, b, off, cap, rfl, hcap, hmax, ha, hk⟩ := h1.bools
 obtain ⟨a2, b2, off2, cap2, rfl, hcap2, hmax2, ha2, hk2⟩ := h2.bools
 unfold maxLen at hmax hmax2
 by_cases hl : l1.length = l2.length
 ·have hne : ((l1.length : Int) != (l2.length : Int)) = false := by rw [bne_eq_false_iff_eq]; omega
  have HL : Hid (l1.length = l2.length) := hl
  have hl2 : l1.length ≤ l2.length := by omega
  clear hl
  go_enter Try.func52, Try.ntmps52
  go_wp2
  go_loopw [5] (fun i wr => ∃ k : Nat, k ≤ l1.length ∧ i = .int .i64 k ∧ Hid (∀ i, i < k → bOf l1 i = bOf l2 i) ∧ Below w.heap.size w wr)
   (fun i _ => l1.length - (intOf i).toNat)
  case atStart => exact ⟨0, Nat.zero_le _, rfl, fun i hi => absurd hi (Nat.not_lt_zero _), Below.refl _ _⟩
  case round =>
   obtain ⟨k, hkl, rfl, ALL, hb⟩ := hrel
   by_cases hlt : k < l1.length
   ·have hal := ha (by omega)
    subst hal
    have hal2 := ha2 (by omega)
    subst hal2
    have hlt2 : k < l2.length := by omega
    have d0 := (hb.cell (by exact cell_lt (hk k hlt))).trans (hk k hlt)
    have d1 := (hb.cell (by exact cell_lt (hk2 k hlt2))).trans (hk2 k hlt2)
    clear hk ha hk2 ha2
    by_cases hq : bOf l1 k = bOf l2 k
    ·have hq' : (bOf l1 k == bOf l2 k) = true := by rw [beq_iff_eq]; exact hq
     have EQ : Hid (bOf l1 k = bOf l2 k) := hq
     clear hq
     go_wp2_with fail
     go_quiet (fail)
     go_wp2
     go_roundw
     case rel => exact ⟨k + 1, by omega, by go_num, fun i hi => if h : i < k then ALL.out i h else by rw [show i = k by omega]; exact EQ.out, below_drewN hb _⟩
     case measure => simp [intOf]; omega
    ·have hq' : (bOf l1 k == bOf l2 k) = false := by rw [beq_eq_false_iff_ne]; exact hq
     have NE : Hid (decide (l1 = l2) = false) := decide_eq_false (fun e => hq (by rw [e]))
     clear hq
     go_wp2_with fail
     go_quiet (fail)
     go_wp2
     go_ret
     exact ⟨ret_bool NE.out.symm, below_drewN hb _⟩
   ·go_wp2
    go_ret
    refine ⟨ret_bool ?_, hb⟩
    symm
    rw [decide_eq_true_iff]
    exact extL HL.out (fun i hi => ALL.out i (by omega))
 ·have hne : ((l1.length : Int) != (l2.length : Int)) = true := by rw [bne_iff_ne]; omega
  go_enter Try.func52, Try.ntmps52
  go_wp2
  go_ret
  refine ⟨ret_bool ?_, Below.refl _ _⟩
  symm
  rw [decide_eq_false_iff_not]
  intro h; exact hl (by rw [h])
end
section
open Go.RowKit

structure NodV where
 id : Int
 te : Int
 vo : Int
 lb : Int
 lt : Int
 lv : Value
 s : MacV
 ro : Int
 vv : Value
 nv : Value
 mv : Value
 cm : Int
 o : MacV
abbrev NodV.val (N : NodV) : Value := .agg #[.int .i64 N.id, .int .i64 N.te, .int .i64 N.vo, .int .i64 N.lb, .int .i64 N.lt, N.lv, .bool N.s.x.lf, N.s.x.p, N.s.x.c, N.s.x.k, N.s.x.b, N.s.v, .int .i64 N.ro, N.vv, N.nv, N.mv, .int .i64 N.cm, .bool N.o.x.lf, N.o.x.p, N.o.x.c, N.o.x.k, N.o.x.b, N.o.v]
structure Nd where
 l : EL
 T1 : Tr
 d1 : DL
 vs : List Bool
 nx : List Int
 mt : List Int
 T2 : Tr
 d2 : DL
def NodAt (n : Nat) (w : World) (N : NodV) (D : Nd) : Prop :=
 Row w N.lv D.l.length (flatE D.l) ∧ MacAt n w N.s D.T1 D.d1 ∧ Row w N.vv D.vs.length (flatL D.vs) ∧ Row w N.nv D.nx.length (flatI D.nx) ∧ Row w N.mv D.mt.length (flatI D.mt) ∧ MacAt n w N.o D.T2 D.d2
theorem NodAt.below {n : Nat} {w w' : World} {N : NodV} {D : Nd} (h : NodAt n w N D) (hb : Below w.heap.size w w') : NodAt n w' N D := ⟨h.1.below hb, h.2.1.below hb, h.2.2.1.below hb, h.2.2.2.1.below hb, h.2.2.2.2.1.below hb, h.2.2.2.2.2.below hb⟩
def Nd.small (n : Nat) (D : Nd) : Prop := D.l.length ≤ 1048576 ∧ sizeT n D.T1 ≤ 1048576 ∧ D.d1.length ≤ 1048576 ∧ D.vs.length ≤ 1048576 ∧ D.nx.length ≤ 1048576 ∧ D.mt.length ≤ 1048576 ∧ sizeT n D.T2 ≤ 1048576 ∧ D.d2.length ≤ 1048576

theorem szBoolS_any (a : Option Addr) (n cap : Nat) (left : Int) (hn : n ≤ maxLen) (hl : 0 ≤ left) (hl2 : left ≤ 1048576) (w : World) :
  Calls Try.prog 41 #[.slice a n cap, .int .i64 left] w fun e w' => e = .returned (.int .i64 (if (n : Int) ≤ left then left - n else -1)) ∧ w' = w := by
 unfold maxLen at hn
 by_cases h : (n : Int) ≤ left
 ·go_enter Try.func41, Try.ntmps41
  go_wp2
  go_ret
  exact ⟨rfl, rfl⟩
 ·go_enter Try.func41, Try.ntmps41
  go_wp2
  go_ret
  exact ⟨rfl, rfl⟩
def Took (m : Nat) (left r : Int) : Prop := r = -1 ∨ (0 ≤ r ∧ r ≤ left ∧ (m : Int) ≤ left)
def NodV.like (N M : NodV) : Prop := N.id = M.id ∧ N.te = M.te ∧ N.vo = M.vo ∧ N.lb = M.lb ∧ N.lt = M.lt ∧ N.ro = M.ro ∧ N.cm = M.cm
theorem eqNode_any (n : Nat) (N M : NodV) (D : Nd) (w : World) (hl : N.like M) (h : NodAt n w N D) (h2 : NodAt n w M D) :
  Calls Try.prog 34 #[N.val, M.val] w fun e w' => e = .returned (.bool true) ∧ Below w.heap.size w w' := by
 obtain ⟨id1, te1, vo1, lb1, lt1, lv1, ⟨⟨sl1, sp1, sc1, sk1, sb1⟩, sv1⟩, ro1, vv1, nv1, mv1, cm1, ⟨⟨ol1, op1, oc1, ok1, ob1⟩, ov1⟩⟩ := N
 obtain ⟨id2, te2, vo2, lb2, lt2, lv2, ⟨⟨sl2, sp2, sc2, sk2, sb2⟩, sv2⟩, ro2, vv2, nv2, mv2, cm2, ⟨⟨ol2, op2, oc2, ok2, ob2⟩, ov2⟩⟩ := M
 obtain ⟨e1, e2, e3, e4, e5, e6, e7⟩ := hl
 simp only at e1 e2 e3 e4 e5 e6 e7
 subst e1 e2 e3 e4 e5 e6 e7
 have H : Hid _ := And.intro h h2
 have K1 : Hid (∀ u, Below w.heap.size w u → Calls Try.prog 50 #[lgV lb1 lt1 lv1, lgV lb1 lt1 lv2] u fun e w' => e = .returned (.bool true) ∧ Below u.heap.size u w') := fun u hu => (eqLog_any lb1 lt1 lb1 lt1 lv1 lv2 D.l D.l u (H.out.1.below hu).1 (H.out.2.below hu).1).mono (fun e w' ⟨he, hb⟩ => ⟨by rw [he]; simp, hb⟩)
 have K2 : Hid (∀ u, Below w.heap.size w u → Calls Try.prog 51 #[.agg #[.bool sl1, sp1, sc1, sk1, sb1, sv1], .agg #[.bool sl2, sp2, sc2, sk2, sb2, sv2]] u fun e w' => e = .returned (.bool true) ∧ Below u.heap.size u w') := fun u hu => eqMachine_any n ⟨⟨sl1, sp1, sc1, sk1, sb1⟩, sv1⟩ ⟨⟨sl2, sp2, sc2, sk2, sb2⟩, sv2⟩ D.T1 D.d1 u (H.out.1.below hu).2.1 (H.out.2.below hu).2.1
 have K3 : Hid (∀ u, Below w.heap.size w u → Calls Try.prog 52 #[vv1, vv2] u fun e w' => e = .returned (.bool true) ∧ Below u.heap.size u w') := fun u hu => (eqBoolS_any vv1 vv2 D.vs D.vs u (H.out.1.below hu).2.2.1 (H.out.2.below hu).2.2.1).mono (fun e w' ⟨he, hb⟩ => ⟨by rw [he]; simp, hb⟩)
 have K4 : Hid (∀ u, Below w.heap.size w u → Calls Try.prog 53 #[nv1, nv2] u fun e w' => e = .returned (.bool true) ∧ Below u.heap.size u w') := fun u hu => (eqIntS_any nv1 nv2 D.nx D.nx u (H.out.1.below hu).2.2.2.1 (H.out.2.below hu).2.2.2.1).mono (fun e w' ⟨he, hb⟩ => ⟨by rw [he]; simp, hb⟩)
 have K5 : Hid (∀ u, Below w.heap.size w u → Calls Try.prog 53 #[mv1, mv2] u fun e w' => e = .returned (.bool true) ∧ Below u.heap.size u w') := fun u hu => (eqIntS_any mv1 mv2 D.mt D.mt u (H.out.1.below hu).2.2.2.2.1 (H.out.2.below hu).2.2.2.2.1).mono (fun e w' ⟨he, hb⟩ => ⟨by rw [he]; simp, hb⟩)
 have K6 : Hid (∀ u, Below w.heap.size w u → Calls Try.prog 51 #[.agg #[.bool ol1, op1, oc1, ok1, ob1, ov1], .agg #[.bool ol2, op2, oc2, ok2, ob2, ov2]] u fun e w' => e = .returned (.bool true) ∧ Below u.heap.size u w') := fun u hu => eqMachine_any n ⟨⟨ol1, op1, oc1, ok1, ob1⟩, ov1⟩ ⟨⟨ol2, op2, oc2, ok2, ob2⟩, ov2⟩ D.T2 D.d2 u (H.out.1.below hu).2.2.2.2.2 (H.out.2.below hu).2.2.2.2.2
 have B1 : Hid (Below w.heap.size w ((w.alloc (.cells #[.int .i64 id1, .int .i64 te1, .int .i64 vo1, .int .i64 lb1, .int .i64 lt1, lv1, .bool sl1, sp1, sc1, sk1, sb1, sv1, .int .i64 ro1, vv1, nv1, mv1, .int .i64 cm1, .bool ol1, op1, oc1, ok1, ob1, ov1] 94)).alloc (.cells #[.int .i64 id1, .int .i64 te1, .int .i64 vo1, .int .i64 lb1, .int .i64 lt1, lv2, .bool sl2, sp2, sc2, sk2, sb2, sv2, .int .i64 ro1, vv2, nv2, mv2, .int .i64 cm1, .bool ol2, op2, oc2, ok2, ob2, ov2] 94))) := Below.and (bel_nw _ _) (bel_nw _ _)
 have N1 : Hid (MBox 94 ((w.alloc (.cells #[.int .i64 id1, .int .i64 te1, .int .i64 vo1, .int .i64 lb1, .int .i64 lt1, lv1, .bool sl1, sp1, sc1, sk1, sb1, sv1, .int .i64 ro1, vv1, nv1, mv1, .int .i64 cm1, .bool ol1, op1, oc1, ok1, ob1, ov1] 94)).alloc (.cells #[.int .i64 id1, .int .i64 te1, .int .i64 vo1, .int .i64 lb1, .int .i64 lt1, lv2, .bool sl2, sp2, sc2, sk2, sb2, sv2, .int .i64 ro1, vv2, nv2, mv2, .int .i64 cm1, .bool ol2, op2, oc2, ok2, ob2, ov2] 94)) w.heap.size #[.int .i64 id1, .int .i64 te1, .int .i64 vo1, .int .i64 lb1, .int .i64 lt1, lv1, .bool sl1, sp1, sc1, sk1, sb1, sv1, .int .i64 ro1, vv1, nv1, mv1, .int .i64 cm1, .bool ol1, op1, oc1, ok1, ob1, ov1]) := (MBox.start _ w _).step (bel_nw _ _)
 have N2 : Hid (MBox 94 ((w.alloc (.cells #[.int .i64 id1, .int .i64 te1, .int .i64 vo1, .int .i64 lb1, .int .i64 lt1, lv1, .bool sl1, sp1, sc1, sk1, sb1, sv1, .int .i64 ro1, vv1, nv1, mv1, .int .i64 cm1, .bool ol1, op1, oc1, ok1, ob1, ov1] 94)).alloc (.cells #[.int .i64 id1, .int .i64 te1, .int .i64 vo1, .int .i64 lb1, .int .i64 lt1, lv2, .bool sl2, sp2, sc2, sk2, sb2, sv2, .int .i64 ro1, vv2, nv2, mv2, .int .i64 cm1, .bool ol2, op2, oc2, ok2, ob2, ov2] 94)) (w.heap.size + 1) #[.int .i64 id1, .int .i64 te1, .int .i64 vo1, .int .i64 lb1, .int .i64 lt1, lv2, .bool sl2, sp2, sc2, sk2, sb2, sv2, .int .i64 ro1, vv2, nv2, mv2, .int .i64 cm1, .bool ol2, op2, oc2, ok2, ob2, ov2]) := by
  have := MBox.start 94 (w.alloc (.cells #[.int .i64 id1, .int .i64 te1, .int .i64 vo1, .int .i64 lb1, .int .i64 lt1, lv1, .bool sl1, sp1, sc1, sk1, sb1, sv1, .int .i64 ro1, vv1, nv1, mv1, .int .i64 cm1, .bool ol1, op1, oc1, ok1, ob1, ov1] 94)) #[.int .i64 id1, .int .i64 te1, .int .i64 vo1, .int .i64 lb1, .int .i64 lt1, lv2, .bool sl2, sp2, sc2, sk2, sb2, sv2, .int .i64 ro1, vv2, nv2, mv2, .int .i64 cm1, .bool ol2, op2, oc2, ok2, ob2, ov2]
  rw [World.size_alloc] at this
  exact this
 have c1 := N1.out.cells
 have d1 := N2.out.cells
 clear h h2 H
 show Calls Try.prog 34 #[.agg #[.int .i64 id1, .int .i64 te1, .int .i64 vo1, .int .i64 lb1, .int .i64 lt1, lv1, .bool sl1, sp1, sc1, sk1, sb1, sv1, .int .i64 ro1, vv1, nv1, mv1, .int .i64 cm1, .bool ol1, op1, oc1, ok1, ob1, ov1], .agg #[.int .i64 id1, .int .i64 te1, .int .i64 vo1, .int .i64 lb1, .int .i64 lt1, lv2, .bool sl2, sp2, sc2, sk2, sb2, sv2, .int .i64 ro1, vv2, nv2, mv2, .int .i64 cm1, .bool ol2, op2, oc2, ok2, ob2, ov2]] w _
 go_enter Try.func34, Try.ntmps34
 go_wp2_with fail
 generalize ((w.alloc (.cells #[.int .i64 id1, .int .i64 te1, .int .i64 vo1, .int .i64 lb1, .int .i64 lt1, lv1, .bool sl1, sp1, sc1, sk1, sb1, sv1, .int .i64 ro1, vv1, nv1, mv1, .int .i64 cm1, .bool ol1, op1, oc1, ok1, ob1, ov1] 94)).alloc (.cells #[.int .i64 id1, .int .i64 te1, .int .i64 vo1, .int .i64 lb1, .int .i64 lt1, lv2, .bool sl2, sp2, sc2, sk2, sb2, sv2, .int .i64 ro1, vv2, nv2, mv2, .int .i64 cm1, .bool ol2, op2, oc2, ok2, ob2, ov2] 94)) = W at *
 refine (K1.out _ B1.out).mono ?_
 rintro e w1 ⟨rfl, b1⟩
 replace B1 : Hid (Below w.heap.size w w1) := Below.and B1.out b1
 replace N1 : Hid (MBox 94 w1 w.heap.size #[.int .i64 id1, .int .i64 te1, .int .i64 vo1, .int .i64 lb1, .int .i64 lt1, lv1, .bool sl1, sp1, sc1, sk1, sb1, sv1, .int .i64 ro1, vv1, nv1, mv1, .int .i64 cm1, .bool ol1, op1, oc1, ok1, ob1, ov1]) := N1.out.step b1
 replace N2 : Hid (MBox 94 w1 (w.heap.size + 1) #[.int .i64 id1, .int .i64 te1, .int .i64 vo1, .int .i64 lb1, .int .i64 lt1, lv2, .bool sl2, sp2, sc2, sk2, sb2, sv2, .int .i64 ro1, vv2, nv2, mv2, .int .i64 cm1, .bool ol2, op2, oc2, ok2, ob2, ov2]) := N2.out.step b1
 clear b1 c1 d1
 have c1 := N1.out.cells
 have d1 := N2.out.cells
 go_wp2_with fail
 refine (K2.out _ B1.out).mono ?_
 rintro e w2 ⟨rfl, b2⟩
 replace B1 : Hid (Below w.heap.size w w2) := Below.and B1.out b2
 replace N1 : Hid (MBox 94 w2 w.heap.size #[.int .i64 id1, .int .i64 te1, .int .i64 vo1, .int .i64 lb1, .int .i64 lt1, lv1, .bool sl1, sp1, sc1, sk1, sb1, sv1, .int .i64 ro1, vv1, nv1, mv1, .int .i64 cm1, .bool ol1, op1, oc1, ok1, ob1, ov1]) := N1.out.step b2
 replace N2 : Hid (MBox 94 w2 (w.heap.size + 1) #[.int .i64 id1, .int .i64 te1, .int .i64 vo1, .int .i64 lb1, .int .i64 lt1, lv2, .bool sl2, sp2, sc2, sk2, sb2, sv2, .int .i64 ro1, vv2, nv2, mv2, .int .i64 cm1, .bool ol2, op2, oc2, ok2, ob2, ov2]) := N2.out.step b2
 clear b2 c1 d1
 have c1 := N1.out.cells
 have d1 := N2.out.cells
 go_wp2_with fail
 refine (K3.out _ B1.out).mono ?_
 rintro e w3 ⟨rfl, b3⟩
 replace B1 : Hid (Below w.heap.size w w3) := Below.and B1.out b3
 replace N1 : Hid (MBox 94 w3 w.heap.size #[.int .i64 id1, .int .i64 te1, .int .i64 vo1, .int .i64 lb1, .int .i64 lt1, lv1, .bool sl1, sp1, sc1, sk1, sb1, sv1, .int .i64 ro1, vv1, nv1, mv1, .int .i64 cm1, .bool ol1, op1, oc1, ok1, ob1, ov1]) := N1.out.step b3
 replace N2 : Hid (MBox 94 w3 (w.heap.size + 1) #[.int .i64 id1, .int .i64 te1, .int .i64 vo1, .int .i64 lb1, .int .i64 lt1, lv2, .bool sl2, sp2, sc2, sk2, sb2, sv2, .int .i64 ro1, vv2, nv2, mv2, .int .i64 cm1, .bool ol2, op2, oc2, ok2, ob2, ov2]) := N2.out.step b3
 clear b3 c1 d1
 have c1 := N1.out.cells
 have d1 := N2.out.cells
 go_wp2_with fail
 refine (K4.out _ B1.out).mono ?_
 rintro e w4 ⟨rfl, b4⟩
 replace B1 : Hid (Below w.heap.size w w4) := Below.and B1.out b4
 replace N1 : Hid (MBox 94 w4 w.heap.size #[.int .i64 id1, .int .i64 te1, .int .i64 vo1, .int .i64 lb1, .int .i64 lt1, lv1, .bool sl1, sp1, sc1, sk1, sb1, sv1, .int .i64 ro1, vv1, nv1, mv1, .int .i64 cm1, .bool ol1, op1, oc1, ok1, ob1, ov1]) := N1.out.step b4
 replace N2 : Hid (MBox 94 w4 (w.heap.size + 1) #[.int .i64 id1, .int .i64 te1, .int .i64 vo1, .int .i64 lb1, .int .i64 lt1, lv2, .bool sl2, sp2, sc2, sk2, sb2, sv2, .int .i64 ro1, vv2, nv2, mv2, .int .i64 cm1, .bool ol2, op2, oc2, ok2, ob2, ov2]) := N2.out.step b4
 clear b4 c1 d1
 have c1 := N1.out.cells
 have d1 := N2.out.cells
 go_wp2_with fail
 refine (K5.out _ B1.out).mono ?_
 rintro e w5 ⟨rfl, b5⟩
 replace B1 : Hid (Below w.heap.size w w5) := Below.and B1.out b5
 replace N1 : Hid (MBox 94 w5 w.heap.size #[.int .i64 id1, .int .i64 te1, .int .i64 vo1, .int .i64 lb1, .int .i64 lt1, lv1, .bool sl1, sp1, sc1, sk1, sb1, sv1, .int .i64 ro1, vv1, nv1, mv1, .int .i64 cm1, .bool ol1, op1, oc1, ok1, ob1, ov1]) := N1.out.step b5
 replace N2 : Hid (MBox 94 w5 (w.heap.size + 1) #[.int .i64 id1, .int .i64 te1, .int .i64 vo1, .int .i64 lb1, .int .i64 lt1, lv2, .bool sl2, sp2, sc2, sk2, sb2, sv2, .int .i64 ro1, vv2, nv2, mv2, .int .i64 cm1, .bool ol2, op2, oc2, ok2, ob2, ov2]) := N2.out.step b5
 clear b5 c1 d1
 have c1 := N1.out.cells
 have d1 := N2.out.cells
 go_wp2_with fail
 refine (K6.out _ B1.out).mono ?_
 rintro e w6 ⟨rfl, b6⟩
 replace B1 : Hid (Below w.heap.size w w6) := Below.and B1.out b6
 replace N1 : Hid (MBox 94 w6 w.heap.size #[.int .i64 id1, .int .i64 te1, .int .i64 vo1, .int .i64 lb1, .int .i64 lt1, lv1, .bool sl1, sp1, sc1, sk1, sb1, sv1, .int .i64 ro1, vv1, nv1, mv1, .int .i64 cm1, .bool ol1, op1, oc1, ok1, ob1, ov1]) := N1.out.step b6
 replace N2 : Hid (MBox 94 w6 (w.heap.size + 1) #[.int .i64 id1, .int .i64 te1, .int .i64 vo1, .int .i64 lb1, .int .i64 lt1, lv2, .bool sl2, sp2, sc2, sk2, sb2, sv2, .int .i64 ro1, vv2, nv2, mv2, .int .i64 cm1, .bool ol2, op2, oc2, ok2, ob2, ov2]) := N2.out.step b6
 clear b6 c1 d1
 have c1 := N1.out.cells
 have d1 := N2.out.cells
 go_wp2
 go_ret
 exact ⟨rfl, B1.out⟩
end
end Go.Proofs.Ythfmifdpldmbaaa
