/-
  The numbers of a node: the program's numsOfLeaf, numsOfFork, numsOfNode.
-/
import Derived.Test.YtbmcojelgbkafaaDoorOfNodes31
import Derived.Test.YtbmcojelgbkafaaDoorOfNodes9
namespace Go.Proofs.YtbmcojelgbkafaaDoor
set_option maxRecDepth 100000
set_option maxHeartbeats 8000000
section
open Go.RowKit

theorem demand_yes {b : Bool} (hb : b = true) (w : World) : Calls Tryd.prog 23 #[.bool b] w fun e w' => e = .returned (.tuple #[]) ∧ w = w' := by rw [hb]; exact demand_true w
theorem demand_no {b : Bool} (hb : b = false) (ea : Addr) (w : World) (h : ErrIs ea w) : Calls Tryd.prog 23 #[.bool b] w fun e w' => e = .panicked (boom ea) ∧ w = w' := by rw [hb]; exact demand_false ea w h
theorem Row.laidN (W : World) (xs : List Value) (e n : Nat) (_hn : xs.length = n) (h : n ≤ maxLen) : Row (W.alloc (.cells xs.toArray e)) (.slice (some ⟨W.heap.size, 0, none⟩) n n) n xs := by
 refine ⟨some ⟨W.heap.size, 0, none⟩, W.heap.size, 0, n, rfl, Nat.le_refl _, h, fun _ => rfl, fun j u hj => ?_, fun h => by cases h⟩
 rw [Nat.zero_add, cell_of_cells (heap_alloc_new W _)]
 simpa using hj
theorem OwnI.laid (W : World) (l : List Int) (base : Nat) (hb : base ≤ W.heap.size) (hl : l.length ≤ 1000) : OwnI base (W.alloc (.cells (flatI l).toArray 3)) (.slice (some ⟨W.heap.size, 0, none⟩) l.length l.length) l :=
 ⟨by simp [flatI], .inr ⟨W.heap.size, l.length, (flatI l).toArray, rfl, hb, heap_alloc_new W _, Nat.le_refl _, by unfold maxLen; omega, by simp [flatI], by rw [Nat.mul_one, List.toList_toArray, ← flatI_length l, List.take_length]⟩⟩
theorem OwnI.below {base : Nat} {w w' : World} {v : Value} {l : List Int} (h : OwnI base w v l) (hb : Below w.heap.size w w') : OwnI base w' v l := owns_below h hb
theorem OwnI.app {base : Nat} {w : World} {v : Value} {l m : List Int} (h : w.ownsRow base 3 1 v (l.length + m.length) (flatI l ++ flatI m)) : OwnI base w v (l ++ m) := by
 unfold OwnI; rw [flatI_append]; simpa using h
theorem roomI {n m : Nat} (h : n + m ≤ 100000) : n + m ≤ maxLen ∧ (n + m) * 8 ≤ 140737488355328 := ⟨by unfold maxLen; omega, by omega⟩

theorem numsOfLeaf_any (ea : Addr) (v : Value) (l : List (Int × Int)) (w : World) (h : Row w v l.length (flatP l)) (he : ErrIs ea w) :
  Calls Tryd.prog 32 #[v] w fun e w' => Below w.heap.size w w' ∧ ((l.length ≤ 4 ∧ ∃ v', e = .returned v' ∧ OwnI w.heap.size w' v' (leafNums l)) ∨ (¬ l.length ≤ 4 ∧ e = .panicked (boom ea))) := by
 obtain ⟨a, b, off, cap, rfl, hcap, hmax, ha, hk, hv⟩ := h.pairs
 obtain ⟨i0, hi, hz0, hz1, hz2⟩ := info_parts Tryd.infoInt
 unfold maxLen at hmax
 have HE : Hid (ErrIs ea w) := he
 clear h he
 by_cases h4 : l.length ≤ 4
 ·have E0 : Hid (OwnI w.heap.size (w.alloc (.cells #[.int .i64 1, .int .i64 l.length] 3)) (.slice (some ⟨w.heap.size, 0, none⟩) 2 2) [1, (l.length : Int)]) := OwnI.laid w [1, (l.length : Int)] w.heap.size (Nat.le_refl _) (by simp)
  go_enter Tryd.func32, Tryd.ntmps32
  go_wp2_with fail
  refine (demand_yes (decide_eq_true (by omega)) _).mono ?_
  rintro e w1 ⟨rfl, rfl⟩
  go_wp2_with fail
  go_loopw [3, 15] (fun o i wr => ∃ k : Nat, k ≤ l.length ∧ i = .int .i64 k ∧ OwnI w.heap.size wr o ([1, (l.length : Int)] ++ pairNums (l.take k)) ∧ Below w.heap.size w wr)
   (fun _ i _ => l.length - (intOf i).toNat)
  case atStart => exact ⟨0, Nat.zero_le _, rfl, by simpa [pairNums] using E0.out, (Below.refl _ _).alloc (Nat.le_refl _) _⟩
  case round =>
   obtain ⟨k, hkl, rfl, hown, hb⟩ := hrel
   have hDl : ([1, (l.length : Int)] ++ pairNums (l.take k)).length ≤ 20 := by simp [pairNums_length]; omega
   by_cases hlt : k < l.length
   ·have hal := ha (by omega)
    subst hal
    have FSu : Hid ([1, (l.length : Int)] ++ pairNums (l.take (k + 1)) = [1, (l.length : Int)] ++ pairNums (l.take k) ++ [kOf l k, vOf l k]) := by show _ = _; rw [pairNums_succ l k hlt]; simp
    have d0 : wr.cell? ⟨b, off + k * 2, none⟩ = some (.int .i64 (kOf l k)) := (hb.cell (by exact cell_lt (hk k hlt))).trans (hk k hlt)
    have d1 : wr.cell? ⟨b, off + k * 2 + 1, none⟩ = some (.int .i64 (vOf l k)) := (hb.cell (by exact cell_lt (hv k hlt))).trans (hv k hlt)
    generalize kOf l k = x at *
    generalize vOf l k = y at *
    generalize [1, (l.length : Int)] ++ pairNums (l.take k) = D at *
    obtain ⟨av, cv, rfl, _, _⟩ := owns_shape hown
    have BS := hb.size
    have W2 : Hid (OwnI w.heap.size ((wr.alloc (.cells #[.int .i64 x, .int .i64 y] 52)).alloc (.cells #[.int .i64 x, .int .i64 y] 3)) (.slice av D.length cv) D ∧ Row ((wr.alloc (.cells #[.int .i64 x, .int .i64 y] 52)).alloc (.cells #[.int .i64 x, .int .i64 y] 3)) (.slice (some ⟨wr.heap.size + 1, 0, none⟩) 2 2) 2 (flatI [x, y]) ∧ Below w.heap.size w ((wr.alloc (.cells #[.int .i64 x, .int .i64 y] 52)).alloc (.cells #[.int .i64 x, .int .i64 y] 3))) := by
     refine ⟨hown.below (((Below.refl _ _).alloc (Nat.le_refl _) _).alloc (by simp) _), ?_, (hb.alloc BS _).alloc (by simp; omega) _⟩
     have := Row.laidN (wr.alloc (.cells #[.int .i64 x, .int .i64 y] 52)) (flatI [x, y]) 3 2 rfl (by decide)
     rw [show (wr.alloc (.cells #[.int .i64 x, .int .i64 y] 52)).heap.size = wr.heap.size + 1 by simp] at this
     exact this
    have HR : Hid _ := roomI (n := D.length) (m := 2) (by omega)
    have BS2 : w.heap.size ≤ ((wr.alloc (.cells #[.int .i64 x, .int .i64 y] 52)).alloc (.cells #[.int .i64 x, .int .i64 y] 3)).heap.size := W2.out.2.2.size
    clear hk hv ha hown hb
    go_wp2_with (at_builtin; refine app_row ((wr.alloc (.cells #[.int .i64 x, .int .i64 y] 52)).alloc (.cells #[.int .i64 x, .int .i64 y] 3)) rfl _ _ 25 rfl w.heap.size 3 i0 _ 1 8 Tryd.underlying25 hi hz0 hz1 hz2 rfl (by decide) (.slice av D.length cv) D.length (flatI D) rfl W2.out.1 (.slice (some ⟨wr.heap.size + 1, 0, none⟩) 2 2) 2 (flatI [x, y]) rfl W2.out.2.1 rfl (flatI_oneC _) HR.out.1 HR.out.2 BS2 ?_)
    intro v' w3 ho3 _ hb3
    have O3 : OwnI w.heap.size w3 v' (D ++ [x, y]) := OwnI.app (m := [x, y]) ho3
    have PP : Hid _ := And.intro O3 (W2.out.2.2.trans hb3)
    clear ho3 hb3 O3 BS2
    go_wp2
    go_roundw
    case rel => exact ⟨k + 1, by omega, by go_num, by rw [FSu.out]; exact PP.out.1, PP.out.2⟩
    case measure => simp [intOf]; omega
   ·have hkk : k = l.length := by omega
    subst hkk
    rw [List.take_length] at hown
    go_wp2
    go_ret
    exact ⟨hb, .inl ⟨h4, _, rfl, hown⟩⟩
 ·have hd : decide ((l.length : Int) ≤ 4) = false := decide_eq_false (by omega)
  go_enter Tryd.func32, Tryd.ntmps32
  go_wp2_with fail
  refine (demand_false ea _ HE.out).mono ?_
  rintro e w1 ⟨rfl, rfl⟩
  go_wp2
  exact ⟨rfl, Below.refl _ _, .inr ⟨h4, rfl⟩⟩

def forkOk (T : Tr) (ks : List Int) : Prop := 1 ≤ ks.length ∧ ks.length ≤ 4 ∧ T.cuts.length + 1 = ks.length ∧ T.buf.length ≤ 6

theorem Below.box {B : Nat} {W wr : World} {A : Array Value} {t : TypeId} (h : BoxAt t W B A) (hB : B < W.heap.size) (hb : Below W.heap.size W wr) : BoxAt t wr B A := (hb.block B hB).trans h

theorem numsOfFork_any (ea : Addr) (n : Nat) (x : TV) (T : Tr) (v : Value) (ks : List Int) (w : World) (ht : TreeAt n w x T) (hks : Row w v ks.length (flatI ks)) (he : ErrIs ea w) :
  Calls Tryd.prog 33 #[x.val, v] w fun e w' => Below w.heap.size w w' ∧ ((forkOk T ks ∧ ∃ v', e = .returned v' ∧ OwnI w.heap.size w' v' (forkNums T ks)) ∨ (¬ forkOk T ks ∧ e = .panicked (boom ea))) := by
 obtain ⟨a1, a2, a3, a4, q1, q2, q3, q4, rfl⟩ := ht.shape
 obtain ⟨i0, hi, hz0, hz1, hz2⟩ := info_parts Tryd.infoInt
 have rc : Row w (.slice a2 T.cuts.length q2) T.cuts.length (flatI T.cuts) := by cases n with | zero => exact ht.elim | succ n => exact ht.2.2.1
 have rb : Row w (.slice a4 T.buf.length q4) T.buf.length (flatM T.buf) := by cases n with | zero => exact ht.elim | succ n => exact ht.2.2.2.1
 obtain ⟨ak, qk, hvk, hkm⟩ := hks.len
 subst hvk
 obtain ⟨_, _, hec, hcm⟩ := rc.len
 obtain ⟨_, _, heb, hbm⟩ := rb.len
 clear hec heb
 unfold maxLen at hkm hcm hbm
 show Calls Tryd.prog 33 #[.agg #[.bool T.leaf, .slice a1 T.pairs.length q1, .slice a2 T.cuts.length q2, .slice a3 T.kids.length q3, .slice a4 T.buf.length q4], .slice ak ks.length qk] w _
 have b0 : Below w.heap.size w (w.alloc (.cells #[.bool T.leaf, .slice a1 T.pairs.length q1, .slice a2 T.cuts.length q2, .slice a3 T.kids.length q3, .slice a4 T.buf.length q4] 29)) := bel_new w _
 have x0 := BoxAt.start 29 w #[.bool T.leaf, .slice a1 T.pairs.length q1, .slice a2 T.cuts.length q2, .slice a3 T.kids.length q3, .slice a4 T.buf.length q4]
 have rc0 := rc.below b0
 have rb0 := rb.below b0
 have rk0 := hks.below b0
 have he0 := he.below b0
 have FN : Hid (forkNums T ks = [0, (ks.length : Int)] ++ ks ++ T.cuts ++ [(T.buf.length : Int)] ++ msgNums T.buf) := rfl
 have BM := rb0.msgs
 clear ht rc rb hks he
 generalize T.leaf = lf at *
 generalize T.pairs.length = n1 at *
 generalize T.kids.length = n3 at *
 have HB0 : Hid _ := b0
 have s0 : (w.alloc (.cells #[.bool lf, .slice a1 n1 q1, .slice a2 T.cuts.length q2, .slice a3 n3 q3, .slice a4 T.buf.length q4] 29)).heap.size = w.heap.size + 1 := by simp
 have EW : Hid (w.alloc (.cells #[.bool lf, .slice a1 n1 q1, .slice a2 T.cuts.length q2, .slice a3 n3 q3, .slice a4 T.buf.length q4] 29) = w.alloc (.cells #[.bool lf, .slice a1 n1 q1, .slice a2 T.cuts.length q2, .slice a3 n3 q3, .slice a4 T.buf.length q4] 29)) := rfl
 generalize hW : w.alloc (.cells #[.bool lf, .slice a1 n1 q1, .slice a2 T.cuts.length q2, .slice a3 n3 q3, .slice a4 T.buf.length q4] 29) = W at HB0 x0 rc0 rb0 rk0 he0 BM s0
 have EW' : Hid (w.alloc (.cells #[.bool lf, .slice a1 n1 q1, .slice a2 T.cuts.length q2, .slice a3 n3 q3, .slice a4 T.buf.length q4] 29) = W) := hW
 have X0 : Hid _ := And.intro x0 (And.intro rc0 (And.intro rb0 (And.intro rk0 he0)))
 clear b0 rc0 rb0 rk0 he0 hW EW
 have bx := x0.cells
 clear x0
 have hBW : w.heap.size < W.heap.size := by omega
 clear s0
 by_cases h1 : 1 ≤ ks.length
 ·by_cases h4 : ks.length ≤ 4
  ·by_cases h2 : T.cuts.length + 1 = ks.length
   ·by_cases h6 : T.buf.length ≤ 6
    ·have OKF : Hid (forkOk T ks) := ⟨h1, h4, h2, h6⟩
     have hq : ((T.cuts.length : Int) == (ks.length : Int) - 1) = true := by rw [beq_iff_eq]; omega
     have L1 : Hid (OwnI W.heap.size (W.alloc (.cells #[.int .i64 0, .int .i64 ks.length] 3)) (.slice (some ⟨W.heap.size, 0, none⟩) 2 2) [0, (ks.length : Int)] ∧ Row (W.alloc (.cells #[.int .i64 0, .int .i64 ks.length] 3)) (.slice ak ks.length qk) ks.length (flatI ks) ∧ Below W.heap.size W (W.alloc (.cells #[.int .i64 0, .int .i64 ks.length] 3))) :=
      ⟨OwnI.laid W [0, (ks.length : Int)] W.heap.size (Nat.le_refl _) (by simp), X0.out.2.2.2.1.below (bel_new W _), bel_new W _⟩
     have HR1 : Hid _ := roomI (n := 2) (m := ks.length) (by omega)
     have hc3 : T.cuts.length ≤ 3 := by omega
     have BS1 : W.heap.size ≤ (W.alloc (.cells #[.int .i64 0, .int .i64 ks.length] 3)).heap.size := by simp
     clear h2
     go_enter Tryd.func33, Tryd.ntmps33
     go_wp2_with fail
     rw [EW'.out]
     refine (demand_yes (by first | rfl | (simp; omega)) _).mono ?_
     rintro e w1 ⟨rfl, rfl⟩
     go_wp2_with fail
     refine (demand_yes (by first | rfl | exact hq) _).mono ?_
     rintro e w1 ⟨rfl, rfl⟩
     go_wp2_with fail
     refine (demand_yes (by first | rfl | exact decide_eq_true (by omega)) _).mono ?_
     rintro e w1 ⟨rfl, rfl⟩
     go_wp2_with (at_builtin; refine app_row (W.alloc (.cells #[.int .i64 0, .int .i64 ks.length] 3)) rfl _ _ 25 rfl W.heap.size 3 i0 _ 1 8 Tryd.underlying25 hi hz0 hz1 hz2 rfl (by decide) (.slice (some ⟨W.heap.size, 0, none⟩) 2 2) 2 (flatI [0, (ks.length : Int)]) rfl L1.out.1 (.slice ak ks.length qk) ks.length (flatI ks) rfl L1.out.2.1 (by rw [flatI_length]; omega) (flatI_oneC _) HR1.out.1 HR1.out.2 BS1 ?_)
     intro v2 w2 ho2 _ hb2
     have o2 : OwnI W.heap.size w2 v2 ([0, (ks.length : Int)] ++ ks) := OwnI.app (l := [0, (ks.length : Int)]) (m := ks) ho2
     have B2 : Below W.heap.size W w2 := L1.out.2.2.trans hb2
     have D2l : ([0, (ks.length : Int)] ++ ks).length ≤ 6 := by simp; omega
     have bx2 := (Below.box X0.out.1 hBW B2).cells
     have BS2 := B2.size
     have L2 : Hid (OwnI W.heap.size w2 v2 ([0, (ks.length : Int)] ++ ks) ∧ Row w2 (.slice a2 T.cuts.length q2) T.cuts.length (flatI T.cuts) ∧ Below W.heap.size W w2) := ⟨o2, X0.out.2.1.below B2, B2⟩
     clear ho2 hb2 B2 bx BS1 L1
     generalize hD2 : [0, (ks.length : Int)] ++ ks = D2 at *
     have Q2 : Hid _ := hD2
     clear hD2
     obtain ⟨av2, cv2, rfl, _, _⟩ := owns_shape o2
     clear o2
     have HR2 : Hid _ := roomI (n := D2.length) (m := T.cuts.length) (by omega)
     go_wp2_with (at_builtin; refine app_row w2 rfl _ _ 25 rfl W.heap.size 3 i0 _ 1 8 Tryd.underlying25 hi hz0 hz1 hz2 rfl (by decide) (.slice av2 D2.length cv2) D2.length (flatI D2) rfl L2.out.1 (.slice a2 T.cuts.length q2) T.cuts.length (flatI T.cuts) rfl L2.out.2.1 (by rw [flatI_length]; omega) (flatI_oneC _) HR2.out.1 HR2.out.2 BS2 ?_)
     intro v3 w3 ho3 _ hb3
     have o3 : OwnI W.heap.size w3 v3 (D2 ++ T.cuts) := OwnI.app (l := D2) (m := T.cuts) ho3
     have B3 : Below W.heap.size W w3 := L2.out.2.2.trans hb3
     have D3l : (D2 ++ T.cuts).length ≤ 9 := by simp; omega
     have bx3 := (Below.box X0.out.1 hBW B3).cells
     have BS3 := B3.size
     clear ho3 hb3 bx2 BS2 L2
     generalize hD3 : D2 ++ T.cuts = D3 at *
     have Q3 : Hid _ := hD3
     clear hD3
     obtain ⟨av3, cv3, rfl, _, _⟩ := owns_shape o3
     have L3 : Hid (OwnI W.heap.size (w3.alloc (.cells #[.int .i64 T.buf.length] 3)) (.slice av3 D3.length cv3) D3 ∧ Row (w3.alloc (.cells #[.int .i64 T.buf.length] 3)) (.slice (some ⟨w3.heap.size, 0, none⟩) 1 1) 1 (flatI [(T.buf.length : Int)]) ∧ Below W.heap.size W (w3.alloc (.cells #[.int .i64 T.buf.length] 3))) :=
      ⟨o3.below (bel_new w3 _), Row.laidN w3 (flatI [(T.buf.length : Int)]) 3 1 rfl (by decide), B3.alloc BS3 _⟩
     have BS4 : W.heap.size ≤ (w3.alloc (.cells #[.int .i64 T.buf.length] 3)).heap.size := by simp; omega
     clear o3 B3
     have HR3 : Hid _ := roomI (n := D3.length) (m := 1) (by omega)
     go_wp2_with (at_builtin; refine app_row (w3.alloc (.cells #[.int .i64 T.buf.length] 3)) rfl _ _ 25 rfl W.heap.size 3 i0 _ 1 8 Tryd.underlying25 hi hz0 hz1 hz2 rfl (by decide) (.slice av3 D3.length cv3) D3.length (flatI D3) rfl L3.out.1 (.slice (some ⟨w3.heap.size, 0, none⟩) 1 1) 1 (flatI [(T.buf.length : Int)]) rfl L3.out.2.1 rfl (flatI_oneC _) HR3.out.1 HR3.out.2 BS4 ?_)
     intro v5 w5 ho5 _ hb5
     have o5 : OwnI W.heap.size w5 v5 (D3 ++ [(T.buf.length : Int)]) := OwnI.app (l := D3) (m := [(T.buf.length : Int)]) ho5
     have B5 : Below W.heap.size W w5 := L3.out.2.2.trans hb5
     have bx5 := (Below.box X0.out.1 hBW B5).cells
     have L5 : Hid _ := And.intro o5 B5
     clear ho5 hb5 bx3 BS3 BS4 L3 o5 B5
     obtain ⟨aa, b, off, cap, hsl, hcap, hmax, ha, hk1, hk2, hk3⟩ := BM
     obtain ⟨rfl, _, rfl⟩ : a4 = aa ∧ True ∧ q4 = cap := by simpa using hsl
     unfold maxLen at hmax
     clear hsl
     have D5l : (D3 ++ [(T.buf.length : Int)]).length ≤ 20 := by simp; omega
     have EQD : Hid (forkNums T ks = (D3 ++ [(T.buf.length : Int)]) ++ msgNums T.buf) := FN.out
     clear Q2 Q3
     generalize D3 ++ [(T.buf.length : Int)] = D5 at *
     go_wp2_with fail
     go_loopw [5, 49] (fun o i wr => ∃ k : Nat, k ≤ T.buf.length ∧ i = .int .i64 k ∧ OwnI W.heap.size wr o (D5 ++ msgNums (T.buf.take k)) ∧ Below W.heap.size W wr)
      (fun _ i _ => T.buf.length - (intOf i).toNat)
     case atStart => exact ⟨0, Nat.zero_le _, rfl, by simpa [msgNums] using L5.out.1, L5.out.2⟩
     case round =>
      obtain ⟨k, hkl, rfl, hown, hb⟩ := hrel
      have hDl : (D5 ++ msgNums (T.buf.take k)).length ≤ 60 := by simp [msgNums_length]; omega
      by_cases hlt : k < T.buf.length
      ·have hal := ha (by omega)
       subst hal
       have FSu : Hid (D5 ++ msgNums (T.buf.take (k + 1)) = D5 ++ msgNums (T.buf.take k) ++ [mO T.buf k, mK T.buf k, mV T.buf k]) := by show _ = _; rw [msgNums_succ T.buf k hlt]; simp
       have d0 : wr.cell? ⟨b, off + k * 3, none⟩ = some (.int .i64 (mO T.buf k)) := (hb.cell (by exact cell_lt (hk1 k hlt))).trans (hk1 k hlt)
       have d1 : wr.cell? ⟨b, off + k * 3 + 1, none⟩ = some (.int .i64 (mK T.buf k)) := (hb.cell (by exact cell_lt (hk2 k hlt))).trans (hk2 k hlt)
       have d2 : wr.cell? ⟨b, off + k * 3 + 2, none⟩ = some (.int .i64 (mV T.buf k)) := (hb.cell (by exact cell_lt (hk3 k hlt))).trans (hk3 k hlt)
       generalize mO T.buf k = x at *
       generalize mK T.buf k = y at *
       generalize mV T.buf k = z at *
       generalize D5 ++ msgNums (T.buf.take k) = D at *
       obtain ⟨av, cv, rfl, _, _⟩ := owns_shape hown
       have BS := hb.size
       have W2 : Hid (OwnI W.heap.size ((wr.alloc (.cells #[.int .i64 x, .int .i64 y, .int .i64 z] 54)).alloc (.cells #[.int .i64 x, .int .i64 y, .int .i64 z] 3)) (.slice av D.length cv) D ∧ Row ((wr.alloc (.cells #[.int .i64 x, .int .i64 y, .int .i64 z] 54)).alloc (.cells #[.int .i64 x, .int .i64 y, .int .i64 z] 3)) (.slice (some ⟨wr.heap.size + 1, 0, none⟩) 3 3) 3 (flatI [x, y, z]) ∧ Below W.heap.size W ((wr.alloc (.cells #[.int .i64 x, .int .i64 y, .int .i64 z] 54)).alloc (.cells #[.int .i64 x, .int .i64 y, .int .i64 z] 3))) := by
        refine ⟨hown.below (((Below.refl _ _).alloc (Nat.le_refl _) _).alloc (by simp) _), ?_, (hb.alloc BS _).alloc (by simp; omega) _⟩
        have := Row.laidN (wr.alloc (.cells #[.int .i64 x, .int .i64 y, .int .i64 z] 54)) (flatI [x, y, z]) 3 3 rfl (by decide)
        rw [show (wr.alloc (.cells #[.int .i64 x, .int .i64 y, .int .i64 z] 54)).heap.size = wr.heap.size + 1 by simp] at this
        exact this
       have HR : Hid _ := roomI (n := D.length) (m := 3) (by omega)
       have BSx : W.heap.size ≤ ((wr.alloc (.cells #[.int .i64 x, .int .i64 y, .int .i64 z] 54)).alloc (.cells #[.int .i64 x, .int .i64 y, .int .i64 z] 3)).heap.size := W2.out.2.2.size
       clear hk1 hk2 hk3 ha hown hb bx5
       go_wp2_with (at_builtin; refine app_row ((wr.alloc (.cells #[.int .i64 x, .int .i64 y, .int .i64 z] 54)).alloc (.cells #[.int .i64 x, .int .i64 y, .int .i64 z] 3)) rfl _ _ 25 rfl W.heap.size 3 i0 _ 1 8 Tryd.underlying25 hi hz0 hz1 hz2 rfl (by decide) (.slice av D.length cv) D.length (flatI D) rfl W2.out.1 (.slice (some ⟨wr.heap.size + 1, 0, none⟩) 3 3) 3 (flatI [x, y, z]) rfl W2.out.2.1 rfl (flatI_oneC _) HR.out.1 HR.out.2 BSx ?_)
       intro v' w6 ho6 _ hb6
       have O6 : OwnI W.heap.size w6 v' (D ++ [x, y, z]) := OwnI.app (m := [x, y, z]) ho6
       have PP : Hid _ := And.intro O6 (W2.out.2.2.trans hb6)
       clear ho6 hb6 O6 BSx
       go_wp2
       go_roundw
       case rel => exact ⟨k + 1, by omega, by go_num, by rw [FSu.out]; exact PP.out.1, PP.out.2⟩
       case measure => simp [intOf]; omega
      ·have hkk : k = T.buf.length := by omega
       subst hkk
       rw [List.take_length] at hown
       have FIN : Hid _ := And.intro hown hb
       clear hk1 hk2 hk3 ha hown hb bx5
       go_wp2
       go_ret
       exact ⟨Below.and HB0.out FIN.out.2, .inl ⟨OKF.out, _, rfl, by rw [EQD.out]; exact owns_mono FIN.out.1 HB0.out.size⟩⟩
    ·have NO : Hid (¬ forkOk T ks) := fun h => h6 h.2.2.2
     have hq : ((T.cuts.length : Int) == (ks.length : Int) - 1) = true := by rw [beq_iff_eq]; omega
     clear h2
     go_enter Tryd.func33, Tryd.ntmps33
     go_wp2_with fail
     rw [EW'.out]
     refine (demand_yes (by first | rfl | (simp; omega)) _).mono ?_
     rintro e w1 ⟨rfl, rfl⟩
     go_wp2_with fail
     refine (demand_yes (by first | rfl | exact hq) _).mono ?_
     rintro e w1 ⟨rfl, rfl⟩
     go_wp2_with fail
     refine (demand_no (by first | rfl | exact decide_eq_false (by omega)) ea _ X0.out.2.2.2.2).mono ?_
     rintro e w1 ⟨rfl, rfl⟩
     go_wp2
     exact ⟨rfl, HB0.out, .inr ⟨NO.out, rfl⟩⟩
   ·have NO : Hid (¬ forkOk T ks) := fun h => h2 h.2.2.1
    have hq : ((T.cuts.length : Int) == (ks.length : Int) - 1) = false := by rw [beq_eq_false_iff_ne]; omega
    clear h2
    go_enter Tryd.func33, Tryd.ntmps33
    go_wp2_with fail
    rw [EW'.out]
    refine (demand_yes (by first | rfl | (simp; omega)) _).mono ?_
    rintro e w1 ⟨rfl, rfl⟩
    go_wp2_with fail
    refine (demand_no (by first | rfl | exact hq) ea _ X0.out.2.2.2.2).mono ?_
    rintro e w1 ⟨rfl, rfl⟩
    go_wp2
    exact ⟨rfl, HB0.out, .inr ⟨NO.out, rfl⟩⟩
  ·have NO : Hid (¬ forkOk T ks) := fun h => h4 h.2.1
   go_enter Tryd.func33, Tryd.ntmps33
   go_wp2_with fail
   rw [EW'.out]
   refine (demand_no (by first | rfl | (simp; omega)) ea _ X0.out.2.2.2.2).mono ?_
   rintro e w1 ⟨rfl, rfl⟩
   go_wp2
   exact ⟨rfl, HB0.out, .inr ⟨NO.out, rfl⟩⟩
 ·have NO : Hid (¬ forkOk T ks) := fun h => h1 h.1
  go_enter Tryd.func33, Tryd.ntmps33
  go_wp2_with fail
  rw [EW'.out]
  refine (demand_no (by first | rfl | (simp; omega)) ea _ X0.out.2.2.2.2).mono ?_
  rintro e w1 ⟨rfl, rfl⟩
  go_wp2
  exact ⟨rfl, HB0.out, .inr ⟨NO.out, rfl⟩⟩
end
end Go.Proofs.YtbmcojelgbkafaaDoor
