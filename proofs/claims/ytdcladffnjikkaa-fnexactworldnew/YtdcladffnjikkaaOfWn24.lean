/-
  The model's WorldNew.
-/
import Derived.Test.YtdcladffnjikkaaOfWn22
import Derived.Test.YtdcladffnjikkaaOfWn23
namespace Go.Proofs.Ytdcladffnjikkaa
set_option maxRecDepth 100000
set_option maxHeartbeats 8000000
section
open Go.RowKit

theorem specWorldNew_yes (k : Nat) (w : World) (h1 : 1 ≤ k) (h2 : k ≤ 5) :
  Calls Try.prog 4 #[.int .i64 (k : Int)] w fun e w' => ∃ (v : Value) (es : List NodE) (G : Nat → Nat → Prop), e = .returned (.tuple #[.agg #[.int .i64 (k : Int), v, .slice none 0 0, .slice none 0 0, .slice none 0 0, .slice none 0 0], .bool true]) ∧ NewU (NodF 1) w.heap.size k k w' v es G ∧ Below w.heap.size w w' := by
 obtain ⟨i0, hi0, hz0, hz1, hz2⟩ := info_parts (show (Try.prog.info? 48).map (fun i => (i.zero, i.size, i.bytes)) = some (some (.agg nodZ.toArray), 23, 408) by kernel_rfl)
 have hk1 : inB (k : Int) 1 5 = true := inB_iff.2 ⟨by omega, by omega⟩
 have BS := hq (fun (ks : List Value) (hl : ks.length = 23) => builtSlice_one (P := Try.prog) 48 i0 _ 23 hi0 hz0 hz1 (by decide) (by decide) ks hl)
 have RM : Hid (∀ j : Nat, j < k → j + 1 ≤ maxLen ∧ (j + 1) * 408 ≤ 140737488355328) := fun j hj => ⟨by unfold maxLen; omega, by omega⟩
 have CN : Hid (∀ (j : Nat) (u : World), j < k → Calls Try.prog 10 #[.int .i64 (j : Int), .int .i64 (k : Int)] u fun e u' => ∃ K : NodV, e = .returned (.tuple #[K.val, .bool true]) ∧ (newV true j).like K ∧ (NodF 1) u' (fun g => u.heap.size ≤ g ∧ g < u'.heap.size) K (newD true k) ∧ Below u.heap.size u u') := fun j u hj => by
  have e : nnB (j : Int) (k : Int) = true := by unfold nnB; rw [hk1, inB_iff.2 ⟨by omega, by omega⟩]; rfl
  have h := specNodeNew_any (j : Int) (k : Int) u
  rw [e, Int.toNat_natCast] at h
  exact h.mono (fun e u' ⟨K, a1, a2, a3, a4⟩ => ⟨K, a1, a2, a3.ltF, a4⟩)
 have HK : Hid (k ≤ 5) := h2
 have B1 : Hid (Below w.heap.size w (w.alloc (.cells #[.int .i64 0, .slice none 0 0, .slice none 0 0, .slice none 0 0, .slice none 0 0, .slice none 0 0] 28))) := bel_nw _ _
 have Y1 : Hid (MBox 28 (w.alloc (.cells #[.int .i64 0, .slice none 0 0, .slice none 0 0, .slice none 0 0, .slice none 0 0, .slice none 0 0] 28)) w.heap.size #[.int .i64 0, .slice none 0 0, .slice none 0 0, .slice none 0 0, .slice none 0 0, .slice none 0 0]) := MBox.start _ w _
 have Z1 : Hid (w.heap.size + 1 = (w.alloc (.cells #[.int .i64 0, .slice none 0 0, .slice none 0 0, .slice none 0 0, .slice none 0 0, .slice none 0 0] 28)).heap.size) := by show _ = _; simp
 go_enter Try.func4, Try.ntmps4
 go_wp2_with fail
 generalize (w.alloc (.cells #[.int .i64 0, .slice none 0 0, .slice none 0 0, .slice none 0 0, .slice none 0 0, .slice none 0 0] 28)) = W1 at *
 refine (l1In_any _ _ _ _).mono ?_
 rintro e w1 ⟨rfl, hw1⟩
 subst hw1
 rw [hk1]
 go_wp2_with fail
 have B2 : Hid (Below w.heap.size w (w1.alloc (.cells #[.int .i64 (k : Int), .slice none 0 0, .slice none 0 0, .slice none 0 0, .slice none 0 0, .slice none 0 0] 28))) := Below.and B1.out (bel_nw _ _)
 have Y2 : Hid (MBox 28 (w1.alloc (.cells #[.int .i64 (k : Int), .slice none 0 0, .slice none 0 0, .slice none 0 0, .slice none 0 0, .slice none 0 0] 28)) w.heap.size #[.int .i64 0, .slice none 0 0, .slice none 0 0, .slice none 0 0, .slice none 0 0, .slice none 0 0]) := Y1.out.step (bel_nw _ _)
 have X2 : Hid (MBox 28 (w1.alloc (.cells #[.int .i64 (k : Int), .slice none 0 0, .slice none 0 0, .slice none 0 0, .slice none 0 0, .slice none 0 0] 28)) w1.heap.size #[.int .i64 (k : Int), .slice none 0 0, .slice none 0 0, .slice none 0 0, .slice none 0 0, .slice none 0 0]) := MBox.start _ w1 _
 have Z2 : Hid (w1.heap.size + 1 = (w1.alloc (.cells #[.int .i64 (k : Int), .slice none 0 0, .slice none 0 0, .slice none 0 0, .slice none 0 0, .slice none 0 0] 28)).heap.size) := by show _ = _; simp
 clear B1 Y1
 generalize (w1.alloc (.cells #[.int .i64 (k : Int), .slice none 0 0, .slice none 0 0, .slice none 0 0, .slice none 0 0, .slice none 0 0] 28)) = W2 at *
 generalize hX : w1.heap.size = X at *
 clear hX
 go_loopw [5] (fun i wr => ∃ (j : Nat) (v : Value) (es : List NodE) (G : Nat → Nat → Prop), j ≤ k ∧ i = .int .i64 j ∧ Hid (NewU (NodF 1) (X + 1) k j wr v es G) ∧ Hid (MBox 28 wr X #[.int .i64 (k : Int), v, .slice none 0 0, .slice none 0 0, .slice none 0 0, .slice none 0 0]) ∧ Hid (MBox 28 wr w.heap.size #[.int .i64 0, .slice none 0 0, .slice none 0 0, .slice none 0 0, .slice none 0 0, .slice none 0 0]) ∧ Hid (Below w.heap.size w wr) ∧ Hid (X + 1 ≤ wr.heap.size)) (fun i _ => k - (intOf i).toNat)
 case atStart => exact ⟨0, .slice none 0 0, [], _, Nat.zero_le _, rfl, NewU.start _ _ _, X2.out, Y2.out, B2.out, by have := Z2.out; show _ ≤ _; omega⟩
 case round =>
  obtain ⟨j, v, es, G, hj, rfl, NU, XB, YB, BW, SZ⟩ := hrel
  clear B2 Y2 X2 Z2
  by_cases hlt : j < k
  ·have hi2 : (j : Int) < (k : Int) := by omega
   go_wp2_with fail
   refine (CN.out j wr hlt).mono ?_
   rintro e u ⟨K, rfl, hl, hn, hb⟩
   obtain ⟨ks, hks⟩ : ∃ ks : List Value, ks = nodC (K, newD true k) := ⟨_, rfl⟩
   have VE : K.val = .agg ks.toArray := by rw [hks]; rfl
   have hkl : ks.length = 23 := by rw [hks]; rfl
   have ONE : Hid (ks.toArray.all (·.oneCell') = true) := by rw [hks]; exact hn.at.ones
   rw [VE]
   have KE : Hid (ks = nodC (K, newD true k)) := hks
   clear VE hks
   have A1 : Hid (Below u.heap.size u (u.alloc (.cells #[.int .i64 0, .int .i64 0, .int .i64 0, .int .i64 0, .int .i64 0, .slice none 0 0, .bool false, .slice none 0 0, .slice none 0 0, .slice none 0 0, .slice none 0 0, .slice none 0 0, .int .i64 0, .slice none 0 0, .slice none 0 0, .slice none 0 0, .int .i64 0, .bool false, .slice none 0 0, .slice none 0 0, .slice none 0 0, .slice none 0 0, .slice none 0 0] 48))) := bel_nw _ _
   have AY : Hid (MBox 48 (u.alloc (.cells #[.int .i64 0, .int .i64 0, .int .i64 0, .int .i64 0, .int .i64 0, .slice none 0 0, .bool false, .slice none 0 0, .slice none 0 0, .slice none 0 0, .slice none 0 0, .slice none 0 0, .int .i64 0, .slice none 0 0, .slice none 0 0, .slice none 0 0, .int .i64 0, .bool false, .slice none 0 0, .slice none 0 0, .slice none 0 0, .slice none 0 0, .slice none 0 0] 48)) u.heap.size #[.int .i64 0, .int .i64 0, .int .i64 0, .int .i64 0, .int .i64 0, .slice none 0 0, .bool false, .slice none 0 0, .slice none 0 0, .slice none 0 0, .slice none 0 0, .slice none 0 0, .int .i64 0, .slice none 0 0, .slice none 0 0, .slice none 0 0, .int .i64 0, .bool false, .slice none 0 0, .slice none 0 0, .slice none 0 0, .slice none 0 0, .slice none 0 0]) := MBox.start _ u _
   have AZ : Hid (u.heap.size + 1 = (u.alloc (.cells #[.int .i64 0, .int .i64 0, .int .i64 0, .int .i64 0, .int .i64 0, .slice none 0 0, .bool false, .slice none 0 0, .slice none 0 0, .slice none 0 0, .slice none 0 0, .slice none 0 0, .int .i64 0, .slice none 0 0, .slice none 0 0, .slice none 0 0, .int .i64 0, .bool false, .slice none 0 0, .slice none 0 0, .slice none 0 0, .slice none 0 0, .slice none 0 0] 48)).heap.size) := by show _ = _; simp
   have TH : Hid ((u.alloc (.cells #[.int .i64 0, .int .i64 0, .int .i64 0, .int .i64 0, .int .i64 0, .slice none 0 0, .bool false, .slice none 0 0, .slice none 0 0, .slice none 0 0, .slice none 0 0, .slice none 0 0, .int .i64 0, .slice none 0 0, .slice none 0 0, .slice none 0 0, .int .i64 0, .bool false, .slice none 0 0, .slice none 0 0, .slice none 0 0, .slice none 0 0, .slice none 0 0] 48)).there u.heap.size 0 ks.toArray.size) := there_of AY.out (show 23 = ks.toArray.size by rw [List.size_toArray, hkl])
   have HM2 : Hid ((Try.prog.info? 48).map (·.size) = some ks.toArray.size) := by show _ = _; rw [List.size_toArray, hkl]; exact (show (Try.prog.info? 48).map (·.size) = some 23 by kernel_rfl)
   have HM1 : Hid ((Try.prog.info? 48).map (·.size) = some ks.length) := by show _ = _; rw [hkl]; exact (show (Try.prog.info? 48).map (·.size) = some 23 by kernel_rfl)
   have GC : Chg (fun g => g = u.heap.size) (u.alloc (.cells #[.int .i64 0, .int .i64 0, .int .i64 0, .int .i64 0, .int .i64 0, .slice none 0 0, .bool false, .slice none 0 0, .slice none 0 0, .slice none 0 0, .slice none 0 0, .slice none 0 0, .int .i64 0, .slice none 0 0, .slice none 0 0, .slice none 0 0, .int .i64 0, .bool false, .slice none 0 0, .slice none 0 0, .slice none 0 0, .slice none 0 0, .slice none 0 0] 48)) ((u.alloc (.cells #[.int .i64 0, .int .i64 0, .int .i64 0, .int .i64 0, .int .i64 0, .slice none 0 0, .bool false, .slice none 0 0, .slice none 0 0, .slice none 0 0, .slice none 0 0, .slice none 0 0, .int .i64 0, .slice none 0 0, .slice none 0 0, .slice none 0 0, .int .i64 0, .bool false, .slice none 0 0, .slice none 0 0, .slice none 0 0, .slice none 0 0, .slice none 0 0] 48)).setCells u.heap.size 0 ks) := Chg.setCells (F := fun g => g = u.heap.size) (g := u.heap.size) (fun _ => rfl) ks 0 _ (Chg.refl _ _)
   have XF : Hid (((u.alloc (.cells #[.int .i64 0, .int .i64 0, .int .i64 0, .int .i64 0, .int .i64 0, .slice none 0 0, .bool false, .slice none 0 0, .slice none 0 0, .slice none 0 0, .slice none 0 0, .slice none 0 0, .int .i64 0, .slice none 0 0, .slice none 0 0, .slice none 0 0, .int .i64 0, .bool false, .slice none 0 0, .slice none 0 0, .slice none 0 0, .slice none 0 0, .slice none 0 0] 48)).setCells u.heap.size 0 ks).heap[u.heap.size]? = some (.cells ks.toArray 48 (0, 0))) := setAll_at AY.out ks (by rw [hkl]; rfl)
   have B3 : Hid (Below u.heap.size u ((u.alloc (.cells #[.int .i64 0, .int .i64 0, .int .i64 0, .int .i64 0, .int .i64 0, .slice none 0 0, .bool false, .slice none 0 0, .slice none 0 0, .slice none 0 0, .slice none 0 0, .slice none 0 0, .int .i64 0, .slice none 0 0, .slice none 0 0, .slice none 0 0, .int .i64 0, .bool false, .slice none 0 0, .slice none 0 0, .slice none 0 0, .slice none 0 0, .slice none 0 0] 48)).setCells u.heap.size 0 ks)) := A1.out.trans (GC.below (fun g _ hg => by omega) A1.out.size)
   have SE : Hid (u.heap.size + 1 ≤ ((u.alloc (.cells #[.int .i64 0, .int .i64 0, .int .i64 0, .int .i64 0, .int .i64 0, .slice none 0 0, .bool false, .slice none 0 0, .slice none 0 0, .slice none 0 0, .slice none 0 0, .slice none 0 0, .int .i64 0, .slice none 0 0, .slice none 0 0, .slice none 0 0, .int .i64 0, .bool false, .slice none 0 0, .slice none 0 0, .slice none 0 0, .slice none 0 0, .slice none 0 0] 48)).setCells u.heap.size 0 ks).heap.size) := by have := GC.size; have := AZ.out; show _ ≤ _; omega
   clear GC AY AZ A1
   go_upto_region 8 with (refine wpList_store_mid rfl 48 _ _ rfl u.heap.size 0 ks.toArray rfl rfl TH.out HM2.out ONE.out ?_)
   generalize ((u.alloc (.cells #[.int .i64 0, .int .i64 0, .int .i64 0, .int .i64 0, .int .i64 0, .slice none 0 0, .bool false, .slice none 0 0, .slice none 0 0, .slice none 0 0, .slice none 0 0, .slice none 0 0, .int .i64 0, .slice none 0 0, .slice none 0 0, .slice none 0 0, .int .i64 0, .bool false, .slice none 0 0, .slice none 0 0, .slice none 0 0, .slice none 0 0, .slice none 0 0] 48)).setCells u.heap.size 0 ks) = U3 at *
   clear TH
   have RG : Hid (U3.rangeAt u.heap.size 0 ks) := by have := range_of XF.out; rw [List.toList_toArray] at this; exact this
   have BA : Hid (Below wr.heap.size wr U3) := hb.trans (B3.out.mono hb.size)
   have b4 : Below U3.heap.size U3 (U3.alloc (.cells ks.toArray 48)) := bel_nw _ _
   have HR : Hid (Row (U3.alloc (.cells ks.toArray 48)) (.slice (some ⟨U3.heap.size, 0, none⟩) 1 1) 1 ks) := Row.laid U3 ks 48 _ rfl
   have B4 : Hid (Below wr.heap.size wr (U3.alloc (.cells ks.toArray 48))) := Below.and BA.out b4
   have OE : Hid (OwnE (U3.alloc (.cells ks.toArray 48)) (X + 1) 48 23 v j (es.map nodC).flatten) := NU.out.2.1.below B4.out
   have XB3 := hq (XB.out.step BA.out)
   have XB4 := hq (XB.out.step B4.out)
   have NA : Hid ((NodF 1) (U3.alloc (.cells ks.toArray 48)) (fun g => wr.heap.size ≤ g ∧ g < u.heap.size) K (newD true k)) := (hn.below B3.out).below b4
   have c3 := XB3.out.cells
   have ON : Hid (∀ y ∈ ks, y.oneCell' = true) := fun y hy => by have := Array.all_eq_true_iff_forall_mem.1 ONE.out y (by simpa using hy); exact this
   have S4 : Hid (X + 1 ≤ (U3.alloc (.cells ks.toArray 48)).heap.size) := by have := SZ.out; have := B4.out.size; show _ ≤ _; omega
   have UL : Hid (u.heap.size ≤ (U3.alloc (.cells ks.toArray 48)).heap.size) := by have := B3.out.size; have := b4.size; show _ ≤ _; omega
   have HL : Hid ((newV true j).like K) := hl
   clear hb hn hl b4 ONE XF B3 BA SE HM2
   go_wp2_with (first | (at_builtin; refine list_appE (U3.alloc (.cells ks.toArray 48)) rfl _ _ 22 rfl (X + 1) 48 i0 _ 23 408 Try.underlying22 hi0 hz0 hz1 hz2 rfl (by decide) v j (es.map nodC).flatten rfl OE.out (.slice (some ⟨U3.heap.size, 0, none⟩) 1 1) 1 ks rfl HR.out (by rw [hkl]) ON.out (RM.out j hlt).1 (RM.out j hlt).2 S4.out ?_) | (refine Go.Great.wpList_buildSliceTo rfl 22 48 1 _ rfl U3.heap.size rfl _ rfl Try.underlying22 ks.toArray (by rw [Array.toList_map]; exact BS.out ks hkl) ?_) | (refine wpList_load_mid rfl 48 _ rfl u.heap.size 0 rfl ks _ RG.out Try.underlying48 rfl HM1.out ?_))
   intro v' x AP
   have NU5 := NU.out.snoc Frm.f (Nat.le_trans SZ.out (Nat.le_refl _)) B4.out NA.out UL.out HL.out (by rw [← KE.out]; exact AP)
   obtain ⟨ao, cp, bp, _⟩ := AP
   obtain ⟨a9, q9, hv9⟩ := OwnE.slice ao
   subst hv9
   have zx := Z1.out
   have xb : MBox 28 x X #[.int .i64 (k : Int), v, .slice none 0 0, .slice none 0 0, .slice none 0 0, .slice none 0 0] := row_chg XB4.out cp (fun hg => by have := (OE.out.lt _ hg).1; omega)
   have yb : MBox 28 x w.heap.size #[.int .i64 0, .slice none 0 0, .slice none 0 0, .slice none 0 0, .slice none 0 0, .slice none 0 0] := row_chg (YB.out.step B4.out) cp (fun hg => by have := (OE.out.lt _ hg).1; omega)
   have bx : Below w.heap.size w x := (Below.and BW.out B4.out).trans (bp.mono (by omega))
   have sx : X + 1 ≤ x.heap.size := Nat.le_trans S4.out cp.size
   have c5 := xb.cells
   have f5 : ∀ q, x.frozen? ⟨X, q, none⟩ = false := fun q => frozen_of_cells xb
   have ch : Chg (fun g => g = X) x (x.setCell ⟨X, 1, none⟩ (.slice a9 (j + 1) q9)) := (Chg.refl (fun g => g = X) x).setAt X 1 rfl _
   have FIN : Hid (NewU (NodF 1) (X + 1) k (j + 1) (x.setCell ⟨X, 1, none⟩ (.slice a9 (j + 1) q9)) (.slice a9 (j + 1) q9) (es ++ [(K, newD true k)]) (fun i g => (i < j ∧ G i g) ∨ (i = j ∧ wr.heap.size ≤ g ∧ g < u.heap.size)) ∧ MBox 28 (x.setCell ⟨X, 1, none⟩ (.slice a9 (j + 1) q9)) X #[.int .i64 (k : Int), .slice a9 (j + 1) q9, .slice none 0 0, .slice none 0 0, .slice none 0 0, .slice none 0 0] ∧ MBox 28 (x.setCell ⟨X, 1, none⟩ (.slice a9 (j + 1) q9)) w.heap.size #[.int .i64 0, .slice none 0 0, .slice none 0 0, .slice none 0 0, .slice none 0 0, .slice none 0 0] ∧ Below w.heap.size w (x.setCell ⟨X, 1, none⟩ (.slice a9 (j + 1) q9)) ∧ X + 1 ≤ (x.setCell ⟨X, 1, none⟩ (.slice a9 (j + 1) q9)).heap.size) :=
    ⟨NU5.chg Frm.f ch (fun g hg _ e => by omega), heap_setCell_same x X 1 _ _ _ xb, row_chg yb ch (by omega), bx.trans (ch.below (fun g _ hg => by omega) bx.size), Nat.le_trans sx ch.size⟩
   clear NU5 ao cp bp xb yb bx sx ch zx c3 NU XB YB BW SZ XB3 XB4 B4 OE NA S4 UL HL KE HM1 RG HR ON
   go_wp2
   go_roundw
   case rel => exact ⟨j + 1, _, _, _, by omega, by go_num, FIN.out.1, FIN.out.2.1, FIN.out.2.2.1, FIN.out.2.2.2.1, FIN.out.2.2.2.2⟩
   case measure => simp [intOf]; omega
  ·have hi2 : ¬ (j : Int) < (k : Int) := by omega
   have hjk : j = k := by omega
   subst hjk
   obtain ⟨a9, q9, hv9⟩ := OwnE.slice NU.out.2.1
   subst hv9
   have c5 := XB.out.cells
   have d5 := YB.out.cells
   have f5 : ∀ q, wr.frozen? ⟨w.heap.size, q, none⟩ = false := fun q => frozen_of_cells YB.out
   have g0 := heap_setCell_same wr w.heap.size 0 _ _ (.int .i64 (j : Int)) YB.out
   have g1 := heap_setCell_same _ w.heap.size 1 _ _ (.slice a9 j q9) g0
   have g2 := heap_setCell_same _ w.heap.size 2 _ _ (.slice none 0 0) g1
   have g3 := heap_setCell_same _ w.heap.size 3 _ _ (.slice none 0 0) g2
   have g4 := heap_setCell_same _ w.heap.size 4 _ _ (.slice none 0 0) g3
   have g5 := heap_setCell_same _ w.heap.size 5 _ _ (.slice none 0 0) g4
   have ch : Chg (fun g => g = w.heap.size) wr ((((((wr.setCell ⟨w.heap.size, 0, none⟩ (.int .i64 (j : Int))).setCell ⟨w.heap.size, 1, none⟩ (.slice a9 j q9)).setCell ⟨w.heap.size, 2, none⟩ (.slice none 0 0)).setCell ⟨w.heap.size, 3, none⟩ (.slice none 0 0)).setCell ⟨w.heap.size, 4, none⟩ (.slice none 0 0)).setCell ⟨w.heap.size, 5, none⟩ (.slice none 0 0)) := ((((((Chg.refl (fun g => g = w.heap.size) wr).setAt w.heap.size 0 rfl _).setAt w.heap.size 1 rfl _).setAt w.heap.size 2 rfl _).setAt w.heap.size 3 rfl _).setAt w.heap.size 4 rfl _).setAt w.heap.size 5 rfl _
   have zx := Z1.out
   have n6 := NU.out.chg Frm.f ch (fun g hg _ e => by omega)
   have b6 : Below w.heap.size w _ := BW.out.trans (ch.below (fun g _ hg => by omega) BW.out.size)
   have XF : Hid (((((((wr.setCell ⟨w.heap.size, 0, none⟩ (.int .i64 (j : Int))).setCell ⟨w.heap.size, 1, none⟩ (.slice a9 j q9)).setCell ⟨w.heap.size, 2, none⟩ (.slice none 0 0)).setCell ⟨w.heap.size, 3, none⟩ (.slice none 0 0)).setCell ⟨w.heap.size, 4, none⟩ (.slice none 0 0)).setCell ⟨w.heap.size, 5, none⟩ (.slice none 0 0)).heap[w.heap.size]? = some (.cells #[.int .i64 (j : Int), .slice a9 j q9, .slice none 0 0, .slice none 0 0, .slice none 0 0, .slice none 0 0] 28 (0, 0))) := g5
   have FIN : Hid (NewU (NodF 1) w.heap.size j j ((((((wr.setCell ⟨w.heap.size, 0, none⟩ (.int .i64 (j : Int))).setCell ⟨w.heap.size, 1, none⟩ (.slice a9 j q9)).setCell ⟨w.heap.size, 2, none⟩ (.slice none 0 0)).setCell ⟨w.heap.size, 3, none⟩ (.slice none 0 0)).setCell ⟨w.heap.size, 4, none⟩ (.slice none 0 0)).setCell ⟨w.heap.size, 5, none⟩ (.slice none 0 0)) (.slice a9 j q9) es G ∧ Below w.heap.size w ((((((wr.setCell ⟨w.heap.size, 0, none⟩ (.int .i64 (j : Int))).setCell ⟨w.heap.size, 1, none⟩ (.slice a9 j q9)).setCell ⟨w.heap.size, 2, none⟩ (.slice none 0 0)).setCell ⟨w.heap.size, 3, none⟩ (.slice none 0 0)).setCell ⟨w.heap.size, 4, none⟩ (.slice none 0 0)).setCell ⟨w.heap.size, 5, none⟩ (.slice none 0 0))) := ⟨⟨n6.1, n6.2.1.mono (by omega), n6.2.2.1, fun i g hi hg => ⟨by have := (n6.2.2.2.1 i g hi hg).1; omega, (n6.2.2.2.1 i g hi hg).2⟩, n6.2.2.2.2⟩, b6⟩
   clear g0 g1 g2 g3 g4 g5 ch n6 b6 zx NU XB YB BW SZ
   go_wp2
   generalize ((((((wr.setCell ⟨w.heap.size, 0, none⟩ (.int .i64 (j : Int))).setCell ⟨w.heap.size, 1, none⟩ (.slice a9 j q9)).setCell ⟨w.heap.size, 2, none⟩ (.slice none 0 0)).setCell ⟨w.heap.size, 3, none⟩ (.slice none 0 0)).setCell ⟨w.heap.size, 4, none⟩ (.slice none 0 0)).setCell ⟨w.heap.size, 5, none⟩ (.slice none 0 0)) = WF at *
   exact ⟨rfl, _, results_cell_two Try.results4 _ WF w.heap.size 28 _ (0, 0) _ rfl XF.out Try.underlying28 rfl (show (Try.prog.info? 28).map (·.size) = some 6 by kernel_rfl), ⟨_, rfl, ⟨_, _, FIN.out.1⟩, FIN.out.2⟩⟩
end
end Go.Proofs.Ytdcladffnjikkaa
