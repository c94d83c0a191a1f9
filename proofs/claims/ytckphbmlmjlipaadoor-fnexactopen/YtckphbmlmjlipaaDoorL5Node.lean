/-
  The model's numbers of a node: l5Node.
-/
import Derived.Test.YtckphbmlmjlipaaDoorPart4
import Derived.Deep.RegionHeld3
namespace Go.Proofs.YtckphbmlmjlipaaDoor
open Go.RowKit

theorem ownI_of {w : World} {base : Nat} {v : Value} {D m : List Int} (h : OwnE w base 3 1 v (D.length + m.length) (flatI D ++ flatI m)) (hm : 0 < m.length := by simp) : OwnI base w v (D ++ m) := by
  rcases h with h | ⟨h, _, _⟩
  · exact OwnI.app h
  · omega

set_option maxRecDepth 100000 in
set_option maxHeartbeats 8000000 in
theorem l5Node_any (n : Nat) (x : TV) (T : Tr) (v : Value) (ks : List Int) (w : World) (ht : TreeAt n w x T) (hks : Row w v ks.length (flatI ks)) (hok : nodeOkP T ks) :
    Calls Tryd.prog 60 #[x.val, v] w fun e w' => Below w.heap.size w w' ∧ ∃ v', e = .returned v' ∧ OwnI w.heap.size w' v' (nodeNums T ks) := by
  obtain ⟨a1, a2, a3, a4, q1, q2, q3, q4, rfl⟩ := ht.shape
  obtain ⟨i0, hi, hz0, hz1, hz2⟩ := info_parts Tryd.infoInt
  have rp : Row w (.slice a1 T.pairs.length q1) T.pairs.length (flatP T.pairs) := by cases n with | zero => exact ht.elim | succ n => exact ht.2.1
  have rc : Row w (.slice a2 T.cuts.length q2) T.cuts.length (flatI T.cuts) := by cases n with | zero => exact ht.elim | succ n => exact ht.2.2.1
  have rb : Row w (.slice a4 T.buf.length q4) T.buf.length (flatM T.buf) := by cases n with | zero => exact ht.elim | succ n => exact ht.2.2.2.1
  obtain ⟨ak, qk, hvk, hkm⟩ := hks.len
  subst hvk
  unfold maxLen at hkm
  show Calls Tryd.prog 60 #[.agg #[.bool T.leaf, .slice a1 T.pairs.length q1, .slice a2 T.cuts.length q2, .slice a3 T.kids.length q3, .slice a4 T.buf.length q4], .slice ak ks.length qk] w _
  have b0 : Below w.heap.size w (w.alloc (.cells #[.bool T.leaf, .slice a1 T.pairs.length q1, .slice a2 T.cuts.length q2, .slice a3 T.kids.length q3, .slice a4 T.buf.length q4] 32)) := bel_new w _
  have x0 := BoxAt.start 32 w #[.bool T.leaf, .slice a1 T.pairs.length q1, .slice a2 T.cuts.length q2, .slice a3 T.kids.length q3, .slice a4 T.buf.length q4]
  have HS : Hid (_ = _) := (by simp : (w.alloc (.cells #[.bool T.leaf, .slice a1 T.pairs.length q1, .slice a2 T.cuts.length q2, .slice a3 T.kids.length q3, .slice a4 T.buf.length q4] 32)).heap.size = w.heap.size + 1)
  have hBW : w.heap.size < (w.alloc (.cells #[.bool T.leaf, .slice a1 T.pairs.length q1, .slice a2 T.cuts.length q2, .slice a3 T.kids.length q3, .slice a4 T.buf.length q4] 32)).heap.size := by simp
  have PP := (rp.below b0).pairs
  have PB := (rb.below b0).msgs
  have X0 : Hid _ := And.intro x0 (And.intro (rc.below b0) (hks.below b0))
  have HB0 : Hid _ := b0
  clear ht hks rp rc rb b0
  generalize hW : w.alloc (.cells #[.bool T.leaf, .slice a1 T.pairs.length q1, .slice a2 T.cuts.length q2, .slice a3 T.kids.length q3, .slice a4 T.buf.length q4] 32) = W at X0 x0 hBW PP PB HB0 HS
  have EW : Hid (w.alloc (.cells #[.bool T.leaf, .slice a1 T.pairs.length q1, .slice a2 T.cuts.length q2, .slice a3 T.kids.length q3, .slice a4 T.buf.length q4] 32) = W) := hW
  clear hW
  have bx := x0.cells
  clear x0
  cases hlf : T.leaf
  · have FN : Hid (nodeNums T ks = [0, (ks.length : Int)] ++ ks ++ T.cuts ++ [(T.buf.length : Int)] ++ msgNums T.buf) := by show _ = _; unfold nodeNums forkNums; rw [if_neg (by rw [hlf]; decide)]
    unfold nodeOkP at hok
    rw [if_neg (by rw [hlf]; decide)] at hok
    have h4 : ks.length ≤ 4 := hok.2.2.2.1
    have hc3 : T.cuts.length ≤ 3 := by omega
    have h6 : T.buf.length ≤ 6 := hok.2.2.2.2.2
    clear hok PP
    rw [hlf] at EW X0 bx
    have L1 : Hid (OwnI W.heap.size (W.alloc (.cells #[.int .i64 0, .int .i64 ks.length] 3)) (.slice (some ⟨w.heap.size + 1, 0, none⟩) 2 2) [0, (ks.length : Int)] ∧ Row (W.alloc (.cells #[.int .i64 0, .int .i64 ks.length] 3)) (.slice ak ks.length qk) ks.length (flatI ks) ∧ Below W.heap.size W (W.alloc (.cells #[.int .i64 0, .int .i64 ks.length] 3))) := by
      refine ⟨?_, X0.out.2.2.below (bel_new W _), bel_new W _⟩
      have := OwnI.laid W [0, (ks.length : Int)] W.heap.size (Nat.le_refl _) (by simp)
      rw [HS.out] at this ⊢
      exact this
    have HR1 : Hid _ := roomI (n := 2) (m := ks.length) (by omega)
    have BS1 : W.heap.size ≤ (W.alloc (.cells #[.int .i64 0, .int .i64 ks.length] 3)).heap.size := by simp
    have L1' : Hid ((w.alloc (.cells #[.bool false, .slice a1 T.pairs.length q1, .slice a2 T.cuts.length q2, .slice a3 T.kids.length q3, .slice a4 T.buf.length q4] 32)).alloc (.cells #[.int .i64 0, .int .i64 ks.length] 3) = W.alloc (.cells #[.int .i64 0, .int .i64 ks.length] 3)) := by show _ = _; rw [EW.out]
    go_enter Tryd.func60, Tryd.ntmps60
    go_wp2_with (at_builtin; rw [L1'.out]; refine app_row (W.alloc (.cells #[.int .i64 0, .int .i64 ks.length] 3)) rfl _ _ 28 rfl W.heap.size 3 i0 _ 1 8 Tryd.underlying28 hi hz0 hz1 hz2 rfl (by decide) (.slice (some ⟨w.heap.size + 1, 0, none⟩) 2 2) 2 (flatI [0, (ks.length : Int)]) rfl L1.out.1 (.slice ak ks.length qk) ks.length (flatI ks) rfl L1.out.2.1 (by rw [flatI_length]; omega) (flatI_oneC _) HR1.out.1 HR1.out.2 BS1 ?_)
    intro v2 w2 ho2 _ hb2
    have o2 : OwnI W.heap.size w2 v2 ([0, (ks.length : Int)] ++ ks) := OwnI.app (l := [0, (ks.length : Int)]) (m := ks) ho2
    have B2 : Below W.heap.size W w2 := L1.out.2.2.trans hb2
    have D2l : ([0, (ks.length : Int)] ++ ks).length ≤ 6 := by simp; omega
    have bx2 := (Below.box X0.out.1 hBW B2).cells
    have BS2 := B2.size
    have L2 : Hid (OwnI W.heap.size w2 v2 ([0, (ks.length : Int)] ++ ks) ∧ Row w2 (.slice a2 T.cuts.length q2) T.cuts.length (flatI T.cuts) ∧ Below W.heap.size W w2) := ⟨o2, X0.out.2.1.below B2, B2⟩
    clear ho2 hb2 B2 bx BS1 L1
    generalize [0, (ks.length : Int)] ++ ks = D2 at *
    obtain ⟨av2, cv2, rfl, _, _⟩ := owns_shape o2
    clear o2
    have HR2 : Hid _ := roomI (n := D2.length) (m := T.cuts.length) (by omega)
    go_wp2_with (at_builtin; refine app_row w2 rfl _ _ 28 rfl W.heap.size 3 i0 _ 1 8 Tryd.underlying28 hi hz0 hz1 hz2 rfl (by decide) (.slice av2 D2.length cv2) D2.length (flatI D2) rfl L2.out.1 (.slice a2 T.cuts.length q2) T.cuts.length (flatI T.cuts) rfl L2.out.2.1 (by rw [flatI_length]; omega) (flatI_oneC _) HR2.out.1 HR2.out.2 BS2 ?_)
    intro v3 w3 ho3 _ hb3
    have o3 : OwnI W.heap.size w3 v3 (D2 ++ T.cuts) := OwnI.app (l := D2) (m := T.cuts) ho3
    have B3 : Below W.heap.size W w3 := L2.out.2.2.trans hb3
    have D3l : (D2 ++ T.cuts).length ≤ 9 := by simp; omega
    have bx3 := (Below.box X0.out.1 hBW B3).cells
    have BS3 := B3.size
    clear ho3 hb3 bx2 BS2 L2
    generalize D2 ++ T.cuts = D3 at *
    obtain ⟨av3, cv3, rfl, _, _⟩ := owns_shape o3
    have L3 : Hid (OwnI W.heap.size (w3.alloc (.cells #[.int .i64 T.buf.length] 3)) (.slice av3 D3.length cv3) D3 ∧ Row (w3.alloc (.cells #[.int .i64 T.buf.length] 3)) (.slice (some ⟨w3.heap.size, 0, none⟩) 1 1) 1 (flatI [(T.buf.length : Int)]) ∧ Below W.heap.size W (w3.alloc (.cells #[.int .i64 T.buf.length] 3))) :=
      ⟨o3.below (bel_new w3 _), Row.laidN w3 (flatI [(T.buf.length : Int)]) 3 1 rfl (by decide), B3.alloc BS3 _⟩
    have BS4 : W.heap.size ≤ (w3.alloc (.cells #[.int .i64 T.buf.length] 3)).heap.size := by simp; omega
    clear o3 B3
    have HR3 : Hid _ := roomI (n := D3.length) (m := 1) (by omega)
    go_wp2_with (at_builtin; refine app_row (w3.alloc (.cells #[.int .i64 T.buf.length] 3)) rfl _ _ 28 rfl W.heap.size 3 i0 _ 1 8 Tryd.underlying28 hi hz0 hz1 hz2 rfl (by decide) (.slice av3 D3.length cv3) D3.length (flatI D3) rfl L3.out.1 (.slice (some ⟨w3.heap.size, 0, none⟩) 1 1) 1 (flatI [(T.buf.length : Int)]) rfl L3.out.2.1 rfl (flatI_oneC _) HR3.out.1 HR3.out.2 BS4 ?_)
    intro v5 w5 ho5 _ hb5
    have o5 : OwnI W.heap.size w5 v5 (D3 ++ [(T.buf.length : Int)]) := OwnI.app (l := D3) (m := [(T.buf.length : Int)]) ho5
    have B5 : Below W.heap.size W w5 := L3.out.2.2.trans hb5
    have L0 : Hid _ := And.intro o5 B5
    clear ho5 hb5 bx3 BS3 BS4 L3 o5 B5
    obtain ⟨aa, b, off, cap, hsl, hcap, hmax, ha, hk1, hk2, hk3⟩ := PB
    obtain ⟨rfl, _, rfl⟩ : a4 = aa ∧ True ∧ q4 = cap := by simpa using hsl
    unfold maxLen at hmax
    clear hsl
    have D5l : (D3 ++ [(T.buf.length : Int)]).length ≤ 20 := by simp; omega
    have EQD : Hid (nodeNums T ks = (D3 ++ [(T.buf.length : Int)]) ++ msgNums T.buf) := FN.out
    clear FN
    generalize D3 ++ [(T.buf.length : Int)] = D0 at *
    go_wp2_with fail
    go_loopw [5, 7] (fun o i wr => ∃ k : Nat, k ≤ T.buf.length ∧ i = .int .i64 k ∧ OwnI W.heap.size wr o (D0 ++ msgNums (T.buf.take k)) ∧ Below W.heap.size W wr)
      (fun _ i _ => T.buf.length - (intOf i).toNat)
    case atStart => exact ⟨0, Nat.zero_le _, rfl, by simpa [msgNums] using L0.out.1, L0.out.2⟩
    case round =>
      obtain ⟨k, hkl, rfl, hown, hb⟩ := hrel
      have hDl : (D0 ++ msgNums (T.buf.take k)).length ≤ 100 := by simp [msgNums_length]; omega
      have bxr := (Below.box X0.out.1 hBW hb).cells
      by_cases hlt : k < T.buf.length
      · have hal := ha (by omega)
        subst hal
        have FSu : Hid (D0 ++ msgNums (T.buf.take (k + 1)) = D0 ++ msgNums (T.buf.take k) ++ [mO T.buf k, mK T.buf k, mV T.buf k]) := by show _ = _; rw [msgNums_succ T.buf k hlt]; simp
        have C0 : Hid (∀ u, Below W.heap.size W u → u.cell? ⟨b, off + k * 3, none⟩ = some (.int .i64 (mO T.buf k))) := fun u hu => (hu.cell (by exact cell_lt (hk1 k hlt))).trans (hk1 k hlt)
        have C1 : Hid (∀ u, Below W.heap.size W u → u.cell? ⟨b, off + k * 3 + 1, none⟩ = some (.int .i64 (mK T.buf k))) := fun u hu => (hu.cell (by exact cell_lt (hk2 k hlt))).trans (hk2 k hlt)
        have C2 : Hid (∀ u, Below W.heap.size W u → u.cell? ⟨b, off + k * 3 + 2, none⟩ = some (.int .i64 (mV T.buf k))) := fun u hu => (hu.cell (by exact cell_lt (hk3 k hlt))).trans (hk3 k hlt)
        have CB : Hid (∀ u, Below W.heap.size W u → u.cell? ⟨w.heap.size, 4, none⟩ = some (.slice (some ⟨b, off, none⟩) T.buf.length q4)) := fun u hu => by rw [(Below.box X0.out.1 hBW hu).cells]; rfl
        generalize mO T.buf k = x at *
        generalize mK T.buf k = y at *
        generalize mV T.buf k = z at *
        generalize D0 ++ msgNums (T.buf.take k) = D at *
        obtain ⟨av, cv, rfl, _, _⟩ := owns_shape hown
        have BS := hb.size
        have KEEP : Hid (∀ u, Below W.heap.size W u → (fun u => u.cell? ⟨w.heap.size, 4, none⟩ = some (.slice (some ⟨b, off, none⟩) T.buf.length q4) ∧ u.cell? ⟨b, off + k * 3, none⟩ = some (.int .i64 x) ∧ u.cell? ⟨b, off + k * 3 + 1, none⟩ = some (.int .i64 y) ∧ u.cell? ⟨b, off + k * 3 + 2, none⟩ = some (.int .i64 z) ∧ Hid (Below W.heap.size W u)) u) := fun u hu => ⟨CB.out u hu, C0.out u hu, C1.out u hu, C2.out u hu, hu⟩
        have KA : Hid (∀ u o, (fun u => u.cell? ⟨w.heap.size, 4, none⟩ = some (.slice (some ⟨b, off, none⟩) T.buf.length q4) ∧ u.cell? ⟨b, off + k * 3, none⟩ = some (.int .i64 x) ∧ u.cell? ⟨b, off + k * 3 + 1, none⟩ = some (.int .i64 y) ∧ u.cell? ⟨b, off + k * 3 + 2, none⟩ = some (.int .i64 z) ∧ Hid (Below W.heap.size W u)) u → (fun u => u.cell? ⟨w.heap.size, 4, none⟩ = some (.slice (some ⟨b, off, none⟩) T.buf.length q4) ∧ u.cell? ⟨b, off + k * 3, none⟩ = some (.int .i64 x) ∧ u.cell? ⟨b, off + k * 3 + 1, none⟩ = some (.int .i64 y) ∧ u.cell? ⟨b, off + k * 3 + 2, none⟩ = some (.int .i64 z) ∧ Hid (Below W.heap.size W u)) (u.alloc o)) := fun u o h => KEEP.out _ (h.2.2.2.2.alloc h.2.2.2.2.size o)
        have OWN : Hid (∀ u, Below wr.heap.size wr u → OwnE u W.heap.size 3 1 (.slice av D.length cv) D.length (flatI D)) := fun u hu => .inl (hown.below hu)
        have SW : (fun u => u.cell? ⟨w.heap.size, 4, none⟩ = some (.slice (some ⟨b, off, none⟩) T.buf.length q4) ∧ u.cell? ⟨b, off + k * 3, none⟩ = some (.int .i64 x) ∧ u.cell? ⟨b, off + k * 3 + 1, none⟩ = some (.int .i64 y) ∧ u.cell? ⟨b, off + k * 3 + 2, none⟩ = some (.int .i64 z) ∧ Hid (Below W.heap.size W u)) wr.drew := KEEP.out _ hb.drew
        have HR : Hid _ := roomI (n := D.length) (m := 3) (by omega)
        have BS2 : W.heap.size ≤ wr.heap.size + 1 := by omega
        have BBW : Hid (Below W.heap.size W wr) := hb
        have hb1 : (0 : Int) ≤ (k : Int) := by omega
        have hb2 : (k : Int) < (T.buf.length : Int) := by omega
        clear hk1 hk2 hk3 ha hown hb
        go_wp2_with fail
        go_region_held3 (fun u => u.cell? ⟨w.heap.size, 4, none⟩ = some (.slice (some ⟨b, off, none⟩) T.buf.length q4) ∧ u.cell? ⟨b, off + k * 3, none⟩ = some (.int .i64 x) ∧ u.cell? ⟨b, off + k * 3 + 1, none⟩ = some (.int .i64 y) ∧ u.cell? ⟨b, off + k * 3 + 2, none⟩ = some (.int .i64 z) ∧ Hid (Below W.heap.size W u)) (first | assumption | exact KA.out _ _ (by assumption) | exact S1) (first
          | (refine step_appE _ rfl _ _ 28 rfl W.heap.size 3 i0 _ 1 8 Tryd.underlying28 hi hz0 hz1 hz2 rfl (by decide) (.slice av D.length cv) D.length (flatI D) rfl (OWN.out _ (by first | exact (bel_new _ _).drew | exact ((Below.refl _ wr).drew.alloc (Nat.le_refl _) _))) (.slice (some ⟨wr.heap.size, 0, none⟩) 3 3) 3 (flatI [x, y, z]) rfl (by first | exact Row.laidN wr (flatI [x, y, z]) 3 3 rfl (by decide) | exact Row.laidN wr.drew (flatI [x, y, z]) 3 3 rfl (by decide) | exact (Row.laidN wr (flatI [x, y, z]) 3 3 rfl (by decide)).below (Below.refl _ _).drew) rfl (flatI_oneC _) HR.out.1 HR.out.2 (by simp; omega) ?_; intro v1 w1 A1; have B1 : Below W.heap.size W w1 := Below.trans (by first | exact (BBW.out.alloc BS _).drew | exact BBW.out.drew.alloc BS _) A1.2.2.1; have S1 := KEEP.out w1 B1; have O1 : Hid _ := And.intro A1.1 B1; clear A1))
        all_goals
          go_wp2
          go_roundw
          case rel => exact ⟨k + 1, by omega, by go_num, by rw [FSu.out]; exact (ownI_of O1.out.1), O1.out.2⟩
          case measure => simp [intOf]; omega
      · have hkk : k = T.buf.length := by omega
        subst hkk
        rw [List.take_length] at hown
        have FIN : Hid _ := And.intro hown hb
        clear hk1 hk2 hk3 ha hown hb
        go_wp2
        go_ret
        exact ⟨Below.and HB0.out FIN.out.2, _, rfl, by rw [EQD.out]; exact owns_mono FIN.out.1 HB0.out.size⟩
  · have EQD : Hid (nodeNums T ks = [1, (T.pairs.length : Int)] ++ pairNums T.pairs) := by show _ = _; unfold nodeNums leafNums; rw [if_pos hlf]
    unfold nodeOkP at hok
    rw [if_pos hlf] at hok
    have h4 : T.pairs.length ≤ 4 := hok.2.2.2.2
    clear hok PB
    rw [hlf] at EW X0 bx
    have L0 : Hid (OwnI W.heap.size ((W.alloc (.cells #[.int .i64 0, .int .i64 ks.length] 3)).alloc (.cells #[.int .i64 1, .int .i64 T.pairs.length] 3)) (.slice (some ⟨w.heap.size + 1 + 1, 0, none⟩) 2 2) [1, (T.pairs.length : Int)] ∧ Below W.heap.size W ((W.alloc (.cells #[.int .i64 0, .int .i64 ks.length] 3)).alloc (.cells #[.int .i64 1, .int .i64 T.pairs.length] 3))) := by
      refine ⟨?_, ((Below.refl _ _).alloc (Nat.le_refl _) _).alloc (by simp) _⟩
      have := OwnI.laid (W.alloc (.cells #[.int .i64 0, .int .i64 ks.length] 3)) [1, (T.pairs.length : Int)] W.heap.size (by simp) (by simp)
      rw [show (W.alloc (.cells #[.int .i64 0, .int .i64 ks.length] 3)).heap.size = w.heap.size + 1 + 1 by simp; exact HS.out] at this
      exact this
    obtain ⟨aa, b, off, cap, hsl, hcap, hmax, ha, hk1, hk2⟩ := PP
    obtain ⟨rfl, _, rfl⟩ : a1 = aa ∧ True ∧ q1 = cap := by simpa using hsl
    unfold maxLen at hmax
    clear hsl
    have hD0 : [1, (T.pairs.length : Int)].length ≤ 20 := by simp
    go_enter Tryd.func60, Tryd.ntmps60
    go_wp2_with fail
    rw [EW.out]
    generalize [1, (T.pairs.length : Int)] = D0 at *
    go_loopw [5, 6] (fun o i wr => ∃ k : Nat, k ≤ T.pairs.length ∧ i = .int .i64 k ∧ OwnI W.heap.size wr o (D0 ++ pairNums (T.pairs.take k)) ∧ Below W.heap.size W wr)
      (fun _ i _ => T.pairs.length - (intOf i).toNat)
    case atStart => exact ⟨0, Nat.zero_le _, rfl, by simpa [pairNums] using L0.out.1, L0.out.2⟩
    case round =>
      obtain ⟨k, hkl, rfl, hown, hb⟩ := hrel
      have hDl : (D0 ++ pairNums (T.pairs.take k)).length ≤ 100 := by simp [pairNums_length]; omega
      have bxr := (Below.box X0.out.1 hBW hb).cells
      by_cases hlt : k < T.pairs.length
      · have hal := ha (by omega)
        subst hal
        have FSu : Hid (D0 ++ pairNums (T.pairs.take (k + 1)) = D0 ++ pairNums (T.pairs.take k) ++ [kOf T.pairs k, vOf T.pairs k]) := by show _ = _; rw [pairNums_succ T.pairs k hlt]; simp
        have C0 : Hid (∀ u, Below W.heap.size W u → u.cell? ⟨b, off + k * 2, none⟩ = some (.int .i64 (kOf T.pairs k))) := fun u hu => (hu.cell (by exact cell_lt (hk1 k hlt))).trans (hk1 k hlt)
        have C1 : Hid (∀ u, Below W.heap.size W u → u.cell? ⟨b, off + k * 2 + 1, none⟩ = some (.int .i64 (vOf T.pairs k))) := fun u hu => (hu.cell (by exact cell_lt (hk2 k hlt))).trans (hk2 k hlt)
        have CB : Hid (∀ u, Below W.heap.size W u → u.cell? ⟨w.heap.size, 1, none⟩ = some (.slice (some ⟨b, off, none⟩) T.pairs.length q1)) := fun u hu => by rw [(Below.box X0.out.1 hBW hu).cells]; rfl
        generalize kOf T.pairs k = x at *
        generalize vOf T.pairs k = y at *
        generalize D0 ++ pairNums (T.pairs.take k) = D at *
        obtain ⟨av, cv, rfl, _, _⟩ := owns_shape hown
        have BS := hb.size
        have KEEP : Hid (∀ u, Below W.heap.size W u → (fun u => u.cell? ⟨w.heap.size, 1, none⟩ = some (.slice (some ⟨b, off, none⟩) T.pairs.length q1) ∧ u.cell? ⟨b, off + k * 2, none⟩ = some (.int .i64 x) ∧ u.cell? ⟨b, off + k * 2 + 1, none⟩ = some (.int .i64 y) ∧ Hid (Below W.heap.size W u)) u) := fun u hu => ⟨CB.out u hu, C0.out u hu, C1.out u hu, hu⟩
        have KA : Hid (∀ u o, (fun u => u.cell? ⟨w.heap.size, 1, none⟩ = some (.slice (some ⟨b, off, none⟩) T.pairs.length q1) ∧ u.cell? ⟨b, off + k * 2, none⟩ = some (.int .i64 x) ∧ u.cell? ⟨b, off + k * 2 + 1, none⟩ = some (.int .i64 y) ∧ Hid (Below W.heap.size W u)) u → (fun u => u.cell? ⟨w.heap.size, 1, none⟩ = some (.slice (some ⟨b, off, none⟩) T.pairs.length q1) ∧ u.cell? ⟨b, off + k * 2, none⟩ = some (.int .i64 x) ∧ u.cell? ⟨b, off + k * 2 + 1, none⟩ = some (.int .i64 y) ∧ Hid (Below W.heap.size W u)) (u.alloc o)) := fun u o h => KEEP.out _ (h.2.2.2.alloc h.2.2.2.size o)
        have OWN : Hid (∀ u, Below wr.heap.size wr u → OwnE u W.heap.size 3 1 (.slice av D.length cv) D.length (flatI D)) := fun u hu => .inl (hown.below hu)
        have SW : (fun u => u.cell? ⟨w.heap.size, 1, none⟩ = some (.slice (some ⟨b, off, none⟩) T.pairs.length q1) ∧ u.cell? ⟨b, off + k * 2, none⟩ = some (.int .i64 x) ∧ u.cell? ⟨b, off + k * 2 + 1, none⟩ = some (.int .i64 y) ∧ Hid (Below W.heap.size W u)) wr.drew := KEEP.out _ hb.drew
        have HR : Hid _ := roomI (n := D.length) (m := 2) (by omega)
        have BS2 : W.heap.size ≤ wr.heap.size + 1 := by omega
        have BBW : Hid (Below W.heap.size W wr) := hb
        have hb1 : (0 : Int) ≤ (k : Int) := by omega
        have hb2 : (k : Int) < (T.pairs.length : Int) := by omega
        clear hk1 hk2 ha hown hb
        go_wp2_with fail
        go_region_held3 (fun u => u.cell? ⟨w.heap.size, 1, none⟩ = some (.slice (some ⟨b, off, none⟩) T.pairs.length q1) ∧ u.cell? ⟨b, off + k * 2, none⟩ = some (.int .i64 x) ∧ u.cell? ⟨b, off + k * 2 + 1, none⟩ = some (.int .i64 y) ∧ Hid (Below W.heap.size W u)) (first | assumption | exact KA.out _ _ (by assumption) | exact S1) (first
          | (refine step_appE _ rfl _ _ 28 rfl W.heap.size 3 i0 _ 1 8 Tryd.underlying28 hi hz0 hz1 hz2 rfl (by decide) (.slice av D.length cv) D.length (flatI D) rfl (OWN.out _ (by first | exact (bel_new _ _).drew | exact ((Below.refl _ wr).drew.alloc (Nat.le_refl _) _))) (.slice (some ⟨wr.heap.size, 0, none⟩) 2 2) 2 (flatI [x, y]) rfl (by first | exact Row.laidN wr (flatI [x, y]) 3 2 rfl (by decide) | exact Row.laidN wr.drew (flatI [x, y]) 3 2 rfl (by decide) | exact (Row.laidN wr (flatI [x, y]) 3 2 rfl (by decide)).below (Below.refl _ _).drew) rfl (flatI_oneC _) HR.out.1 HR.out.2 (by simp; omega) ?_; intro v1 w1 A1; have B1 : Below W.heap.size W w1 := Below.trans (by first | exact (BBW.out.alloc BS _).drew | exact BBW.out.drew.alloc BS _) A1.2.2.1; have S1 := KEEP.out w1 B1; have O1 : Hid _ := And.intro A1.1 B1; clear A1))
        all_goals
          go_wp2
          go_roundw
          case rel => exact ⟨k + 1, by omega, by go_num, by rw [FSu.out]; exact (ownI_of O1.out.1), O1.out.2⟩
          case measure => simp [intOf]; omega
      · have hkk : k = T.pairs.length := by omega
        subst hkk
        rw [List.take_length] at hown
        have FIN : Hid _ := And.intro hown hb
        clear hk1 hk2 ha hown hb
        go_wp2
        go_ret
        exact ⟨Below.and HB0.out FIN.out.2, _, rfl, by rw [EQD.out]; exact owns_mono FIN.out.1 HB0.out.size⟩

end Go.Proofs.YtckphbmlmjlipaaDoor
