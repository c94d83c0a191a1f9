/-
  The model's numbers of a node: l5Node.
  The program's reader: its next byte.
  A number read from its bytes, as a plain function: the form read byte by byte.
  The program's reader: a number.
-/
import Derived.Test.YtekcnibohikmdaaOfWrites13
import Derived.Deep.RegionHeld3
import Derived.Test.YtekcnibohikmdaaOfWrites12
namespace Go.Proofs.Ytekcnibohikmdaa
set_option maxRecDepth 100000
set_option maxHeartbeats 8000000
section
open Go.RowKit

theorem ownI_of {w : World} {base : Nat} {v : Value} {D m : List Int} (h : OwnE w base 3 1 v (D.length + m.length) (flatI D ++ flatI m)) (hm : 0 < m.length := by simp) : OwnI base w v (D ++ m) := by
 rcases h with h | ⟨h, _, _⟩
 ·exact OwnI.app h
 ·omega

theorem l5Node_any (n : Nat) (x : TV) (T : Tr) (v : Value) (ks : List Int) (w : World) (ht : TreeAt n w x T) (hks : Row w v ks.length (flatI ks)) (hok : nodeOkP T ks) :
  Calls Try.prog 46 #[x.val, v] w fun e w' => Below w.heap.size w w' ∧ ∃ v', e = .returned v' ∧ OwnI w.heap.size w' v' (nodeNums T ks) := by
 obtain ⟨a1, a2, a3, a4, q1, q2, q3, q4, rfl⟩ := ht.shape
 obtain ⟨i0, hi, hz0, hz1, hz2⟩ := info_parts Try.infoInt
 have rp : Row w (.slice a1 T.pairs.length q1) T.pairs.length (flatP T.pairs) := by cases n with | zero => exact ht.elim | succ n => exact ht.2.1
 have rc : Row w (.slice a2 T.cuts.length q2) T.cuts.length (flatI T.cuts) := by cases n with | zero => exact ht.elim | succ n => exact ht.2.2.1
 have rb : Row w (.slice a4 T.buf.length q4) T.buf.length (flatM T.buf) := by cases n with | zero => exact ht.elim | succ n => exact ht.2.2.2.1
 obtain ⟨ak, qk, hvk, hkm⟩ := hks.len
 subst hvk
 unfold maxLen at hkm
 show Calls Try.prog 46 #[.agg #[.bool T.leaf, .slice a1 T.pairs.length q1, .slice a2 T.cuts.length q2, .slice a3 T.kids.length q3, .slice a4 T.buf.length q4], .slice ak ks.length qk] w _
 have b0 : Below w.heap.size w (w.alloc (.cells #[.bool T.leaf, .slice a1 T.pairs.length q1, .slice a2 T.cuts.length q2, .slice a3 T.kids.length q3, .slice a4 T.buf.length q4] 54)) := bel_new w _
 have x0 := BoxAt.start 54 w #[.bool T.leaf, .slice a1 T.pairs.length q1, .slice a2 T.cuts.length q2, .slice a3 T.kids.length q3, .slice a4 T.buf.length q4]
 have HS : Hid (_ = _) := (by simp : (w.alloc (.cells #[.bool T.leaf, .slice a1 T.pairs.length q1, .slice a2 T.cuts.length q2, .slice a3 T.kids.length q3, .slice a4 T.buf.length q4] 54)).heap.size = w.heap.size + 1)
 have hBW : w.heap.size < (w.alloc (.cells #[.bool T.leaf, .slice a1 T.pairs.length q1, .slice a2 T.cuts.length q2, .slice a3 T.kids.length q3, .slice a4 T.buf.length q4] 54)).heap.size := by simp
 have PP := (rp.below b0).pairs
 have PB := (rb.below b0).msgs
 have X0 : Hid _ := And.intro x0 (And.intro (rc.below b0) (hks.below b0))
 have HB0 : Hid _ := b0
 clear ht hks rp rc rb b0
 generalize hW : w.alloc (.cells #[.bool T.leaf, .slice a1 T.pairs.length q1, .slice a2 T.cuts.length q2, .slice a3 T.kids.length q3, .slice a4 T.buf.length q4] 54) = W at X0 x0 hBW PP PB HB0 HS
 have EW : Hid (w.alloc (.cells #[.bool T.leaf, .slice a1 T.pairs.length q1, .slice a2 T.cuts.length q2, .slice a3 T.kids.length q3, .slice a4 T.buf.length q4] 54) = W) := hW
 clear hW
 have bx := x0.cells
 clear x0
 cases hlf : T.leaf
 ·have FN : Hid (nodeNums T ks = [0, (ks.length : Int)] ++ ks ++ T.cuts ++ [(T.buf.length : Int)] ++ msgNums T.buf) := by show _ = _; unfold nodeNums forkNums; rw [if_neg (by rw [hlf]; decide)]
  unfold nodeOkP at hok
  rw [if_neg (by rw [hlf]; decide)] at hok
  have h4 : ks.length ≤ 4 := hok.2.2.2.1
  have hc3 : T.cuts.length ≤ 3 := by omega
  have h6 : T.buf.length ≤ 6 := hok.2.2.2.2.2
  clear hok PP
  rw [hlf] at EW X0 bx
  have L1 : Hid (OwnI W.heap.size (W.alloc (.cells #[.int .i64 0, .int .i64 ks.length] 3)) (.slice (some ⟨w.heap.size + 1, 0, none⟩) 2 2) [0, (ks.length : Int)] ∧ Row (W.alloc (.cells #[.int .i64 0, .int .i64 ks.length] 3)) (.slice ak ks.length qk) ks.length (flatI ks) ∧ Below W.heap.size W (W.alloc (.cells #[.int .i64 0, .int .i64 ks.length] 3))) := by
   refine ⟨?_, X0.out.2.2.below (bel_new W _), bel_new W _⟩
   have := OwnI.laid W [0, (ks.length : Int)] W.heap.size (Nat.le_refl _) (by simp)
   rw [HS.out] at this ⊢
   exact this
  have HR1 : Hid _ := roomI (n := 2) (m := ks.length) (by omega)
  have BS1 : W.heap.size ≤ (W.alloc (.cells #[.int .i64 0, .int .i64 ks.length] 3)).heap.size := by simp
  have L1' : Hid ((w.alloc (.cells #[.bool false, .slice a1 T.pairs.length q1, .slice a2 T.cuts.length q2, .slice a3 T.kids.length q3, .slice a4 T.buf.length q4] 54)).alloc (.cells #[.int .i64 0, .int .i64 ks.length] 3) = W.alloc (.cells #[.int .i64 0, .int .i64 ks.length] 3)) := by show _ = _; rw [EW.out]
  go_enter Try.func46, Try.ntmps46
  go_wp2_with (at_builtin; rw [L1'.out]; refine app_row (W.alloc (.cells #[.int .i64 0, .int .i64 ks.length] 3)) rfl _ _ 50 rfl W.heap.size 3 i0 _ 1 8 Try.underlying50 hi hz0 hz1 hz2 rfl (by decide) (.slice (some ⟨w.heap.size + 1, 0, none⟩) 2 2) 2 (flatI [0, (ks.length : Int)]) rfl L1.out.1 (.slice ak ks.length qk) ks.length (flatI ks) rfl L1.out.2.1 (by rw [flatI_length]; omega) (flatI_oneC _) HR1.out.1 HR1.out.2 BS1 ?_)
  intro v2 w2 ho2 _ hb2
  have o2 : OwnI W.heap.size w2 v2 ([0, (ks.length : Int)] ++ ks) := OwnI.app (l := [0, (ks.length : Int)]) (m := ks) ho2
  have B2 : Below W.heap.size W w2 := L1.out.2.2.trans hb2
  have D2l : ([0, (ks.length : Int)] ++ ks).length ≤ 6 := by simp; omega
  have bx2 := (Below.box X0.out.1 hBW B2).cells
  have BS2 := B2.size
  have L2 : Hid (OwnI W.heap.size w2 v2 ([0, (ks.length : Int)] ++ ks) ∧ Row w2 (.slice a2 T.cuts.length q2) T.cuts.length (flatI T.cuts) ∧ Below W.heap.size W w2) := ⟨o2, X0.out.2.1.below B2, B2⟩
  clear ho2 hb2 B2 bx BS1 L1
  generalize [0, (ks.length : Int)] ++ ks = D2 at *
  obtain ⟨av2, cv2, rfl, _, _⟩ := owns_shape o2
  clear o2
  have HR2 : Hid _ := roomI (n := D2.length) (m := T.cuts.length) (by omega)
  go_wp2_with (at_builtin; refine app_row w2 rfl _ _ 50 rfl W.heap.size 3 i0 _ 1 8 Try.underlying50 hi hz0 hz1 hz2 rfl (by decide) (.slice av2 D2.length cv2) D2.length (flatI D2) rfl L2.out.1 (.slice a2 T.cuts.length q2) T.cuts.length (flatI T.cuts) rfl L2.out.2.1 (by rw [flatI_length]; omega) (flatI_oneC _) HR2.out.1 HR2.out.2 BS2 ?_)
  intro v3 w3 ho3 _ hb3
  have o3 : OwnI W.heap.size w3 v3 (D2 ++ T.cuts) := OwnI.app (l := D2) (m := T.cuts) ho3
  have B3 : Below W.heap.size W w3 := L2.out.2.2.trans hb3
  have D3l : (D2 ++ T.cuts).length ≤ 9 := by simp; omega
  have bx3 := (Below.box X0.out.1 hBW B3).cells
  have BS3 := B3.size
  clear ho3 hb3 bx2 BS2 L2
  generalize D2 ++ T.cuts = D3 at *
  obtain ⟨av3, cv3, rfl, _, _⟩ := owns_shape o3
  have L3 : Hid (OwnI W.heap.size (w3.alloc (.cells #[.int .i64 T.buf.length] 3)) (.slice av3 D3.length cv3) D3 ∧ Row (w3.alloc (.cells #[.int .i64 T.buf.length] 3)) (.slice (some ⟨w3.heap.size, 0, none⟩) 1 1) 1 (flatI [(T.buf.length : Int)]) ∧ Below W.heap.size W (w3.alloc (.cells #[.int .i64 T.buf.length] 3))) :=
   ⟨o3.below (bel_new w3 _), Row.laidN w3 (flatI [(T.buf.length : Int)]) 3 1 rfl (by decide), B3.alloc BS3 _⟩
  have BS4 : W.heap.size ≤ (w3.alloc (.cells #[.int .i64 T.buf.length] 3)).heap.size := by simp; omega
  clear o3 B3
  have HR3 : Hid _ := roomI (n := D3.length) (m := 1) (by omega)
  go_wp2_with (at_builtin; refine app_row (w3.alloc (.cells #[.int .i64 T.buf.length] 3)) rfl _ _ 50 rfl W.heap.size 3 i0 _ 1 8 Try.underlying50 hi hz0 hz1 hz2 rfl (by decide) (.slice av3 D3.length cv3) D3.length (flatI D3) rfl L3.out.1 (.slice (some ⟨w3.heap.size, 0, none⟩) 1 1) 1 (flatI [(T.buf.length : Int)]) rfl L3.out.2.1 rfl (flatI_oneC _) HR3.out.1 HR3.out.2 BS4 ?_)
  intro v5 w5 ho5 _ hb5
  have o5 : OwnI W.heap.size w5 v5 (D3 ++ [(T.buf.length : Int)]) := OwnI.app (l := D3) (m := [(T.buf.length : Int)]) ho5
  have B5 : Below W.heap.size W w5 := L3.out.2.2.trans hb5
  have L0 : Hid _ := And.intro o5 B5
  clear ho5 hb5 bx3 BS3 BS4 L3 o5 B5
  obtain ⟨aa, b, off, cap, hsl, hcap, hmax, ha, hk1, hk2, hk3⟩ := PB
  obtain ⟨rfl, _, rfl⟩ : a4 = aa ∧ True ∧ q4 = cap := by simpa using hsl
  unfold maxLen at hmax
  clear hsl
  have D5l : (D3 ++ [(T.buf.length : Int)]).length ≤ 20 := by simp; omega
  have EQD : Hid (nodeNums T ks = (D3 ++ [(T.buf.length : Int)]) ++ msgNums T.buf) := FN.out
  clear FN
  generalize D3 ++ [(T.buf.length : Int)] = D0 at *
  go_wp2_with fail
  go_loopw [5, 7] (fun o i wr => ∃ k : Nat, k ≤ T.buf.length ∧ i = .int .i64 k ∧ OwnI W.heap.size wr o (D0 ++ msgNums (T.buf.take k)) ∧ Below W.heap.size W wr)
   (fun _ i _ => T.buf.length - (intOf i).toNat)
  case atStart => exact ⟨0, Nat.zero_le _, rfl, by simpa [msgNums] using L0.out.1, L0.out.2⟩
  case round =>
   obtain ⟨k, hkl, rfl, hown, hb⟩ := hrel
   have hDl : (D0 ++ msgNums (T.buf.take k)).length ≤ 100 := by simp [msgNums_length]; omega
   have bxr := (Below.box X0.out.1 hBW hb).cells
   by_cases hlt : k < T.buf.length
   ·have hal := ha (by omega)
    subst hal
    have FSu : Hid (D0 ++ msgNums (T.buf.take (k + 1)) = D0 ++ msgNums (T.buf.take k) ++ [mO T.buf k, mK T.buf k, mV T.buf k]) := by show _ = _; rw [msgNums_succ T.buf k hlt]; simp
    have C0 : Hid (∀ u, Below W.heap.size W u → u.cell? ⟨b, off + k * 3, none⟩ = some (.int .i64 (mO T.buf k))) := fun u hu => (hu.cell (by exact cell_lt (hk1 k hlt))).trans (hk1 k hlt)
    have C1 : Hid (∀ u, Below W.heap.size W u → u.cell? ⟨b, off + k * 3 + 1, none⟩ = some (.int .i64 (mK T.buf k))) := fun u hu => (hu.cell (by exact cell_lt (hk2 k hlt))).trans (hk2 k hlt)
    have C2 : Hid (∀ u, Below W.heap.size W u → u.cell? ⟨b, off + k * 3 + 2, none⟩ = some (.int .i64 (mV T.buf k))) := fun u hu => (hu.cell (by exact cell_lt (hk3 k hlt))).trans (hk3 k hlt)
    have CB : Hid (∀ u, Below W.heap.size W u → u.cell? ⟨w.heap.size, 4, none⟩ = some (.slice (some ⟨b, off, none⟩) T.buf.length q4)) := fun u hu => by rw [(Below.box X0.out.1 hBW hu).cells]; rfl
    generalize mO T.buf k = x at *
    generalize mK T.buf k = y at *
    generalize mV T.buf k = z at *
    generalize D0 ++ msgNums (T.buf.take k) = D at *
    obtain ⟨av, cv, rfl, _, _⟩ := owns_shape hown
    have BS := hb.size
    have KEEP : Hid (∀ u, Below W.heap.size W u → (fun u => u.cell? ⟨w.heap.size, 4, none⟩ = some (.slice (some ⟨b, off, none⟩) T.buf.length q4) ∧ u.cell? ⟨b, off + k * 3, none⟩ = some (.int .i64 x) ∧ u.cell? ⟨b, off + k * 3 + 1, none⟩ = some (.int .i64 y) ∧ u.cell? ⟨b, off + k * 3 + 2, none⟩ = some (.int .i64 z) ∧ Hid (Below W.heap.size W u)) u) := fun u hu => ⟨CB.out u hu, C0.out u hu, C1.out u hu, C2.out u hu, hu⟩
    have KA : Hid (∀ u o, (fun u => u.cell? ⟨w.heap.size, 4, none⟩ = some (.slice (some ⟨b, off, none⟩) T.buf.length q4) ∧ u.cell? ⟨b, off + k * 3, none⟩ = some (.int .i64 x) ∧ u.cell? ⟨b, off + k * 3 + 1, none⟩ = some (.int .i64 y) ∧ u.cell? ⟨b, off + k * 3 + 2, none⟩ = some (.int .i64 z) ∧ Hid (Below W.heap.size W u)) u → (fun u => u.cell? ⟨w.heap.size, 4, none⟩ = some (.slice (some ⟨b, off, none⟩) T.buf.length q4) ∧ u.cell? ⟨b, off + k * 3, none⟩ = some (.int .i64 x) ∧ u.cell? ⟨b, off + k * 3 + 1, none⟩ = some (.int .i64 y) ∧ u.cell? ⟨b, off + k * 3 + 2, none⟩ = some (.int .i64 z) ∧ Hid (Below W.heap.size W u)) (u.alloc o)) := fun u o h => KEEP.out _ (h.2.2.2.2.alloc h.2.2.2.2.size o)
    have OWN : Hid (∀ u, Below wr.heap.size wr u → OwnE u W.heap.size 3 1 (.slice av D.length cv) D.length (flatI D)) := fun u hu => .inl (hown.below hu)
    have SW : (fun u => u.cell? ⟨w.heap.size, 4, none⟩ = some (.slice (some ⟨b, off, none⟩) T.buf.length q4) ∧ u.cell? ⟨b, off + k * 3, none⟩ = some (.int .i64 x) ∧ u.cell? ⟨b, off + k * 3 + 1, none⟩ = some (.int .i64 y) ∧ u.cell? ⟨b, off + k * 3 + 2, none⟩ = some (.int .i64 z) ∧ Hid (Below W.heap.size W u)) wr.drew := KEEP.out _ hb.drew
    have HR : Hid _ := roomI (n := D.length) (m := 3) (by omega)
    have BS2 : W.heap.size ≤ wr.heap.size + 1 := by omega
    have BBW : Hid (Below W.heap.size W wr) := hb
    have hb1 : (0 : Int) ≤ (k : Int) := by omega
    have hb2 : (k : Int) < (T.buf.length : Int) := by omega
    clear hk1 hk2 hk3 ha hown hb
    go_wp2_with fail
    go_region_held3 (fun u => u.cell? ⟨w.heap.size, 4, none⟩ = some (.slice (some ⟨b, off, none⟩) T.buf.length q4) ∧ u.cell? ⟨b, off + k * 3, none⟩ = some (.int .i64 x) ∧ u.cell? ⟨b, off + k * 3 + 1, none⟩ = some (.int .i64 y) ∧ u.cell? ⟨b, off + k * 3 + 2, none⟩ = some (.int .i64 z) ∧ Hid (Below W.heap.size W u)) (first | assumption | exact KA.out _ _ (by assumption) | exact S1) (first
     | (refine step_appE _ rfl _ _ 50 rfl W.heap.size 3 i0 _ 1 8 Try.underlying50 hi hz0 hz1 hz2 rfl (by decide) (.slice av D.length cv) D.length (flatI D) rfl (OWN.out _ (by first | exact (bel_new _ _).drew | exact ((Below.refl _ wr).drew.alloc (Nat.le_refl _) _))) (.slice (some ⟨wr.heap.size, 0, none⟩) 3 3) 3 (flatI [x, y, z]) rfl (by first | exact Row.laidN wr (flatI [x, y, z]) 3 3 rfl (by decide) | exact Row.laidN wr.drew (flatI [x, y, z]) 3 3 rfl (by decide) | exact (Row.laidN wr (flatI [x, y, z]) 3 3 rfl (by decide)).below (Below.refl _ _).drew) rfl (flatI_oneC _) HR.out.1 HR.out.2 (by simp; omega) ?_; intro v1 w1 A1; have B1 : Below W.heap.size W w1 := Below.trans (by first | exact (BBW.out.alloc BS _).drew | exact BBW.out.drew.alloc BS _) A1.2.2.1; have S1 := KEEP.out w1 B1; have O1 : Hid _ := And.intro A1.1 B1; clear A1))
    all_goals
     go_wp2
     go_roundw
     case rel => exact ⟨k + 1, by omega, by go_num, by rw [FSu.out]; exact (ownI_of O1.out.1), O1.out.2⟩
     case measure => simp [intOf]; omega
   ·have hkk : k = T.buf.length := by omega
    subst hkk
    rw [List.take_length] at hown
    have FIN : Hid _ := And.intro hown hb
    clear hk1 hk2 hk3 ha hown hb
    go_wp2
    go_ret
    exact ⟨Below.and HB0.out FIN.out.2, _, rfl, by rw [EQD.out]; exact owns_mono FIN.out.1 HB0.out.size⟩
 ·have EQD : Hid (nodeNums T ks = [1, (T.pairs.length : Int)] ++ pairNums T.pairs) := by show _ = _; unfold nodeNums leafNums; rw [if_pos hlf]
  unfold nodeOkP at hok
  rw [if_pos hlf] at hok
  have h4 : T.pairs.length ≤ 4 := hok.2.2.2.2
  clear hok PB
  rw [hlf] at EW X0 bx
  have L0 : Hid (OwnI W.heap.size ((W.alloc (.cells #[.int .i64 0, .int .i64 ks.length] 3)).alloc (.cells #[.int .i64 1, .int .i64 T.pairs.length] 3)) (.slice (some ⟨w.heap.size + 1 + 1, 0, none⟩) 2 2) [1, (T.pairs.length : Int)] ∧ Below W.heap.size W ((W.alloc (.cells #[.int .i64 0, .int .i64 ks.length] 3)).alloc (.cells #[.int .i64 1, .int .i64 T.pairs.length] 3))) := by
   refine ⟨?_, ((Below.refl _ _).alloc (Nat.le_refl _) _).alloc (by simp) _⟩
   have := OwnI.laid (W.alloc (.cells #[.int .i64 0, .int .i64 ks.length] 3)) [1, (T.pairs.length : Int)] W.heap.size (by simp) (by simp)
   rw [show (W.alloc (.cells #[.int .i64 0, .int .i64 ks.length] 3)).heap.size = w.heap.size + 1 + 1 by simp; exact HS.out] at this
   exact this
  obtain ⟨aa, b, off, cap, hsl, hcap, hmax, ha, hk1, hk2⟩ := PP
  obtain ⟨rfl, _, rfl⟩ : a1 = aa ∧ True ∧ q1 = cap := by simpa using hsl
  unfold maxLen at hmax
  clear hsl
  have hD0 : [1, (T.pairs.length : Int)].length ≤ 20 := by simp
  go_enter Try.func46, Try.ntmps46
  go_wp2_with fail
  rw [EW.out]
  generalize [1, (T.pairs.length : Int)] = D0 at *
  go_loopw [5, 6] (fun o i wr => ∃ k : Nat, k ≤ T.pairs.length ∧ i = .int .i64 k ∧ OwnI W.heap.size wr o (D0 ++ pairNums (T.pairs.take k)) ∧ Below W.heap.size W wr)
   (fun _ i _ => T.pairs.length - (intOf i).toNat)
  case atStart => exact ⟨0, Nat.zero_le _, rfl, by simpa [pairNums] using L0.out.1, L0.out.2⟩
  case round =>
   obtain ⟨k, hkl, rfl, hown, hb⟩ := hrel
   have hDl : (D0 ++ pairNums (T.pairs.take k)).length ≤ 100 := by simp [pairNums_length]; omega
   have bxr := (Below.box X0.out.1 hBW hb).cells
   by_cases hlt : k < T.pairs.length
   ·have hal := ha (by omega)
    subst hal
    have FSu : Hid (D0 ++ pairNums (T.pairs.take (k + 1)) = D0 ++ pairNums (T.pairs.take k) ++ [kOf T.pairs k, vOf T.pairs k]) := by show _ = _; rw [pairNums_succ T.pairs k hlt]; simp
    have C0 : Hid (∀ u, Below W.heap.size W u → u.cell? ⟨b, off + k * 2, none⟩ = some (.int .i64 (kOf T.pairs k))) := fun u hu => (hu.cell (by exact cell_lt (hk1 k hlt))).trans (hk1 k hlt)
    have C1 : Hid (∀ u, Below W.heap.size W u → u.cell? ⟨b, off + k * 2 + 1, none⟩ = some (.int .i64 (vOf T.pairs k))) := fun u hu => (hu.cell (by exact cell_lt (hk2 k hlt))).trans (hk2 k hlt)
    have CB : Hid (∀ u, Below W.heap.size W u → u.cell? ⟨w.heap.size, 1, none⟩ = some (.slice (some ⟨b, off, none⟩) T.pairs.length q1)) := fun u hu => by rw [(Below.box X0.out.1 hBW hu).cells]; rfl
    generalize kOf T.pairs k = x at *
    generalize vOf T.pairs k = y at *
    generalize D0 ++ pairNums (T.pairs.take k) = D at *
    obtain ⟨av, cv, rfl, _, _⟩ := owns_shape hown
    have BS := hb.size
    have KEEP : Hid (∀ u, Below W.heap.size W u → (fun u => u.cell? ⟨w.heap.size, 1, none⟩ = some (.slice (some ⟨b, off, none⟩) T.pairs.length q1) ∧ u.cell? ⟨b, off + k * 2, none⟩ = some (.int .i64 x) ∧ u.cell? ⟨b, off + k * 2 + 1, none⟩ = some (.int .i64 y) ∧ Hid (Below W.heap.size W u)) u) := fun u hu => ⟨CB.out u hu, C0.out u hu, C1.out u hu, hu⟩
    have KA : Hid (∀ u o, (fun u => u.cell? ⟨w.heap.size, 1, none⟩ = some (.slice (some ⟨b, off, none⟩) T.pairs.length q1) ∧ u.cell? ⟨b, off + k * 2, none⟩ = some (.int .i64 x) ∧ u.cell? ⟨b, off + k * 2 + 1, none⟩ = some (.int .i64 y) ∧ Hid (Below W.heap.size W u)) u → (fun u => u.cell? ⟨w.heap.size, 1, none⟩ = some (.slice (some ⟨b, off, none⟩) T.pairs.length q1) ∧ u.cell? ⟨b, off + k * 2, none⟩ = some (.int .i64 x) ∧ u.cell? ⟨b, off + k * 2 + 1, none⟩ = some (.int .i64 y) ∧ Hid (Below W.heap.size W u)) (u.alloc o)) := fun u o h => KEEP.out _ (h.2.2.2.alloc h.2.2.2.size o)
    have OWN : Hid (∀ u, Below wr.heap.size wr u → OwnE u W.heap.size 3 1 (.slice av D.length cv) D.length (flatI D)) := fun u hu => .inl (hown.below hu)
    have SW : (fun u => u.cell? ⟨w.heap.size, 1, none⟩ = some (.slice (some ⟨b, off, none⟩) T.pairs.length q1) ∧ u.cell? ⟨b, off + k * 2, none⟩ = some (.int .i64 x) ∧ u.cell? ⟨b, off + k * 2 + 1, none⟩ = some (.int .i64 y) ∧ Hid (Below W.heap.size W u)) wr.drew := KEEP.out _ hb.drew
    have HR : Hid _ := roomI (n := D.length) (m := 2) (by omega)
    have BS2 : W.heap.size ≤ wr.heap.size + 1 := by omega
    have BBW : Hid (Below W.heap.size W wr) := hb
    have hb1 : (0 : Int) ≤ (k : Int) := by omega
    have hb2 : (k : Int) < (T.pairs.length : Int) := by omega
    clear hk1 hk2 ha hown hb
    go_wp2_with fail
    go_region_held3 (fun u => u.cell? ⟨w.heap.size, 1, none⟩ = some (.slice (some ⟨b, off, none⟩) T.pairs.length q1) ∧ u.cell? ⟨b, off + k * 2, none⟩ = some (.int .i64 x) ∧ u.cell? ⟨b, off + k * 2 + 1, none⟩ = some (.int .i64 y) ∧ Hid (Below W.heap.size W u)) (first | assumption | exact KA.out _ _ (by assumption) | exact S1) (first
     | (refine step_appE _ rfl _ _ 50 rfl W.heap.size 3 i0 _ 1 8 Try.underlying50 hi hz0 hz1 hz2 rfl (by decide) (.slice av D.length cv) D.length (flatI D) rfl (OWN.out _ (by first | exact (bel_new _ _).drew | exact ((Below.refl _ wr).drew.alloc (Nat.le_refl _) _))) (.slice (some ⟨wr.heap.size, 0, none⟩) 2 2) 2 (flatI [x, y]) rfl (by first | exact Row.laidN wr (flatI [x, y]) 3 2 rfl (by decide) | exact Row.laidN wr.drew (flatI [x, y]) 3 2 rfl (by decide) | exact (Row.laidN wr (flatI [x, y]) 3 2 rfl (by decide)).below (Below.refl _ _).drew) rfl (flatI_oneC _) HR.out.1 HR.out.2 (by simp; omega) ?_; intro v1 w1 A1; have B1 : Below W.heap.size W w1 := Below.trans (by first | exact (BBW.out.alloc BS _).drew | exact BBW.out.drew.alloc BS _) A1.2.2.1; have S1 := KEEP.out w1 B1; have O1 : Hid _ := And.intro A1.1 B1; clear A1))
    all_goals
     go_wp2
     go_roundw
     case rel => exact ⟨k + 1, by omega, by go_num, by rw [FSu.out]; exact (ownI_of O1.out.1), O1.out.2⟩
     case measure => simp [intOf]; omega
   ·have hkk : k = T.pairs.length := by omega
    subst hkk
    rw [List.take_length] at hown
    have FIN : Hid _ := And.intro hown hb
    clear hk1 hk2 ha hown hb
    go_wp2
    go_ret
    exact ⟨Below.and HB0.out FIN.out.2, _, rfl, by rw [EQD.out]; exact owns_mono FIN.out.1 HB0.out.size⟩
end
section
open Go.RowKit

def PlaceIs (w : World) (P : Nat) (a : Int) : Prop := w.heap[P]? = some (.cells #[.int .i64 a] 3 (0, 0))
end
section
open Go.RowKit

def numN (c : Int) : Int := if c % 2 = 1 then -((c + 1) / 2) else c / 2
def unitN : Nat → Int
 | 0 => 1
 | j + 1 => 128 * unitN j
def readC : Nat → Int → Int → List Int → Option (Int × Nat)
 | 0, _, _, _ => none
 | _ + 1, _, _, [] => none
 | f + 1, u, c, b :: r =>
  if b < 128 then (if (0 < b ∨ u = 1) ∧ c + b % 128 * u ≤ 4000000000 then some (c + b % 128 * u, 1) else none)
  else (readC f (u * 128) (c + b % 128 * u) r).map fun p => (p.1, p.2 + 1)
def fromB (bs : List Int) (at_ : Int) : List Int := if at_ < 0 then [] else bs.drop at_.toNat
def getN (bs : List Int) (at_ : Int) : Option (Int × Int) := (readC 5 1 0 (fromB bs at_)).map fun p => (numN p.1, at_ + p.2)

structure Reading (bs : List Int) (at_ : Int) (j : Nat) (u c : Int) : Prop where
 le : j ≤ 5
 unit : u = unitN j
 low : 0 ≤ c
 high : c < u
 all : readC 5 1 0 (fromB bs at_) = (readC (5 - j) u c ((fromB bs at_).drop j)).map fun p => (p.1, p.2 + j)
 pos : j = 0 ∨ 0 ≤ at_

theorem Reading.start (bs : List Int) (at_ : Int) : Reading bs at_ 0 1 0 := by
 refine ⟨by omega, rfl, by omega, by omega, ?_, .inl rfl⟩
 simp only [Nat.sub_zero, List.drop_zero, Nat.add_zero]
 cases readC 5 1 0 (fromB bs at_) <;> rfl
theorem unitN_in {j : Nat} (h : j ≤ 5) : 1 ≤ unitN j ∧ unitN j ≤ 34359738368 ∧ (unitN j ≤ 4000000000 ↔ j < 5) ∧ (unitN j = 1 ↔ j = 0) := by
 match j, h with
 | 0, _ => simp [unitN]
 | 1, _ => simp [unitN]
 | 2, _ => simp [unitN]
 | 3, _ => simp [unitN]
 | 4, _ => simp [unitN]
 | 5, _ => simp [unitN]
theorem fromB_here {bs : List Int} {at_ : Int} {j : Nat} (h0 : 0 ≤ at_) (h : at_ + j < bs.length) : (fromB bs at_).drop j = byOf bs (at_.toNat + j) :: (fromB bs at_).drop (j + 1) := by
 unfold fromB
 rw [if_neg (by omega), List.drop_drop, List.drop_drop]
 have hlt : at_.toNat + j < bs.length := by omega
 rw [List.drop_eq_getElem_cons hlt]
 simp [byOf, List.getD, hlt, Nat.add_assoc]
theorem fromB_end {bs : List Int} {at_ : Int} {j : Nat} (hp : j = 0 ∨ 0 ≤ at_) (h : ¬ (0 ≤ at_ + j ∧ at_ + j < bs.length)) : (fromB bs at_).drop j = [] := by
 unfold fromB
 split
 ·simp
 ·rw [List.drop_drop, List.drop_eq_nil_iff]
  rcases hp with rfl | hp <;> omega

theorem mul_in {b u : Int} (hu : 1 ≤ u) : 0 ≤ b % 128 * u ∧ b % 128 * u ≤ 127 * u := by
 have h1 : 0 ≤ b % 128 := by omega
 have h2 : b % 128 ≤ 127 := by omega
 exact ⟨Int.mul_nonneg h1 (by omega), Int.mul_le_mul_of_nonneg_right h2 (by omega)⟩

variable {bs : List Int} {at_ : Int} {j : Nat} {u c : Int}

theorem Reading.over (h : Reading bs at_ j u c) (hx : j = 5 ∨ ¬ (0 ≤ at_ + j ∧ at_ + j < bs.length)) : getN bs at_ = none := by
 unfold getN
 rw [h.all]
 rcases hx with rfl | hx
 ·rfl
 ·rw [fromB_end h.pos hx]
  rcases hj : 5 - j with _ | f
  ·rfl
  ·rfl
theorem Reading.step (h : Reading bs at_ j u c) (hj : j < 5) (h0 : 0 ≤ at_) (hx : at_ + j < bs.length) {b : Int} (hb : b = byOf bs (at_.toNat + j)) (hb1 : 128 ≤ b) : Reading bs at_ (j + 1) (u * 128) (c + b % 128 * u) := by
 have hu := unitN_in h.le
 rw [← h.unit] at hu
 have hm := mul_in (b := b) hu.1
 have hl := h.low
 have hh := h.high
 refine ⟨by omega, ?_, by omega, by omega, ?_, .inr h0⟩
 ·rw [h.unit]; simp [unitN]; omega
 ·rw [h.all, fromB_here h0 hx, ← hb, show 5 - j = (5 - (j + 1)) + 1 by omega, readC, if_neg (by omega)]
  cases readC (5 - (j + 1)) (u * 128) (c + b % 128 * u) ((fromB bs at_).drop (j + 1)) with
  | none => rfl
  | some p => simp [Nat.add_assoc, Nat.add_comm 1 j]
theorem Reading.stop (h : Reading bs at_ j u c) (hj : j < 5) (h0 : 0 ≤ at_) (hx : at_ + j < bs.length) {b : Int} (hb : b = byOf bs (at_.toNat + j)) (hb1 : b < 128) :
  getN bs at_ = if (0 < b ∨ u = 1) ∧ c + b % 128 * u ≤ 4000000000 then some (numN (c + b % 128 * u), at_ + j + 1) else none := by
 unfold getN
 rw [h.all, fromB_here h0 hx, ← hb, show 5 - j = (5 - (j + 1)) + 1 by omega, readC, if_pos hb1]
 split
 ·simp; omega
 ·rfl

theorem numN_in {c : Int} (h0 : 0 ≤ c) : (-2000000000 ≤ numN c ∧ numN c ≤ 2000000000) ↔ c ≤ 4000000000 := by
 unfold numN; split <;> omega
theorem numN_odd {c : Int} (h : c % 2 = 1) : numN c = 0 - c / 2 - 1 := by simp only [numN, h, if_true]; omega
theorem numN_even {c : Int} (h : ¬ c % 2 = 1) : numN c = c / 2 := by simp only [numN, h, if_false]
theorem putN_none {x : Int} : (putN x).length = 0 ↔ ¬ (-2000000000 ≤ x ∧ x ≤ 2000000000) := by
 constructor
 ·intro h hx
  rw [putN_in hx.1 hx.2] at h
  have := sevens_pos 4 (codeN x)
  omega
 ·intro h; rw [putN_out h]; rfl
end
section
open Go.RowKit
end
end Go.Proofs.Ytekcnibohikmdaa
