/-
  The model's GetNode.
-/
import Derived.Test.YtekcnibohikmdaaOfWrites18
import Derived.Test.YtekcnibohikmdaaOfWrites16
import Derived.Deep.DeepCutAuto
import Derived.Deep.CutBlock
namespace Go.Proofs.Ytekcnibohikmdaa
set_option maxRecDepth 100000
set_option maxHeartbeats 8000000
section
open Go.RowKit

def SNodePost (g : Option NodeV) (e : Ending) (w' : World) : Prop := match g with
 | some n => ∃ (x : TV) (vk : Value), e = .returned (.tuple #[x.val, vk, .bool true]) ∧ TreeAt 2 w' x (treeV n) ∧ Row w' vk (kidsV n).length (flatI (kidsV n))
 | none => ∃ g, e = .returned (.tuple #[treeZ, .slice (some ⟨g, 0, none⟩) 0 0, .bool false])

def NodeOwnS (base : Nat) (u : World) (x : TV) (vk : Value) (T : Tr) (ks : List Int) : Prop :=
 OwnE u base 76 2 x.p T.pairs.length (flatP T.pairs) ∧ OwnE u base 3 1 x.c T.cuts.length (flatI T.cuts) ∧ OwnE u base 54 5 x.k T.kids.length (flatT (List.replicate T.kids.length (⟨false, .slice none 0 0, .slice none 0 0, .slice none 0 0, .slice none 0 0⟩ : TV))) ∧ OwnE u base 73 3 x.b T.buf.length (flatM T.buf) ∧ OwnE u base 3 1 vk ks.length (flatI ks)
def SNodePostB (base : Nat) (g : Option NodeV) (e : Ending) (w' : World) : Prop := match g with
 | some n => ∃ (x : TV) (vk : Value), e = .returned (.tuple #[x.val, vk, .bool true]) ∧ (TreeAt 2 w' x (treeV n) ∧ Row w' vk (kidsV n).length (flatI (kidsV n))) ∧ NodeOwnS base w' x vk (treeV n) (kidsV n)
 | none => ∃ g, e = .returned (.tuple #[treeZ, .slice (some ⟨g, 0, none⟩) 0 0, .bool false])

theorem roomT {n m : Nat} (h : n + m ≤ 100000) : n + m ≤ maxLen ∧ (n + m) * 104 ≤ 140737488355328 := ⟨by unfold maxLen; omega, by omega⟩
theorem zeroT_one : ∀ y ∈ flatT [(⟨false, .slice none 0 0, .slice none 0 0, .slice none 0 0, .slice none 0 0⟩ : TV)], y.oneCell' = true := by
 intro y hy
 simp [flatT, TV.cells] at hy
 rcases hy with rfl | rfl <;> rfl

theorem specGetNode_own (v : Value) (bs : List Int) (w : World) (hr : Row w v bs.length (flatB bs)) (hbs : inByte bs) (hn : bs.length ≤ 1099511627776) :
  Calls Try.prog 47 #[v] w fun e w' => SNodePostB (w.heap.size + 1) (getNodeF bs) e w' ∧ Below w.heap.size w w' := by
 obtain ⟨i0, hi, hz0, hz1, hz2⟩ := info_parts Try.infoPair
 obtain ⟨av, bv, ov, cv, hv, _⟩ := id hr
 have b1 : Below w.heap.size w (w.alloc (.cells #[.bool false, .slice none 0 0, .slice none 0 0, .slice none 0 0, .slice none 0 0] 54)) := bel_new _ _
 have n1 : w.heap.size < (w.alloc (.cells #[.bool false, .slice none 0 0, .slice none 0 0, .slice none 0 0, .slice none 0 0] 54)).heap.size := by simp
 have z1 := heap_alloc_new w (.cells #[.bool false, .slice none 0 0, .slice none 0 0, .slice none 0 0, .slice none 0 0] 54)
 generalize hW1 : w.alloc (.cells #[.bool false, .slice none 0 0, .slice none 0 0, .slice none 0 0, .slice none 0 0] 54) = W1 at b1 n1 z1
 have s1 : W1.heap.size = w.heap.size + 1 := by rw [← hW1]; simp
 have b2 : Below W1.heap.size W1 (W1.alloc (.cells #[v, .int .i64 0, .bool true] 102)) := bel_new _ _
 have n2 : CurAt (W1.alloc (.cells #[v, .int .i64 0, .bool true] 102)) W1.heap.size v 0 true := heap_alloc_new _ _
 generalize hW2 : W1.alloc (.cells #[v, .int .i64 0, .bool true] 102) = W2 at b2 n2
 have E2 : Hid ((w.alloc (.cells #[.bool false, .slice none 0 0, .slice none 0 0, .slice none 0 0, .slice none 0 0] 54)).alloc (.cells #[v, .int .i64 0, .bool true] 102) = W2) := by show _ = _; rw [hW1, hW2]
 have s2 : W2.heap.size = W1.heap.size + 1 := by rw [← hW2]; simp
 rw [s1] at n2
 have B2 : Below w.heap.size w W2 := Below.and b1 b2
 have z2 : W2.heap[w.heap.size]? = some (Obj.cells #[.bool false, .slice none 0 0, .slice none 0 0, .slice none 0 0, .slice none 0 0] 54 (0, 0)) := row_chg z1 (Chg.of_below (F := fun _ => False) b2) id
 have hs2 : w.heap.size + 1 + 1 ≤ W2.heap.size := by omega
 have H0 : Hid (Row w v bs.length (flatB bs)) := hr
 have H2 : Hid _ := And.intro n2 (And.intro B2 z2)
 clear hr b1 n1 z1 hW1 s1 b2 n2 hW2 s2 B2 z2
 subst hv
 go_enter Try.func47, Try.ntmps47
 go_wp2_with fail
 rw [E2.out]
 refine (l5Num_any _ bs (w.heap.size + 1) 0 true W2 (H0.out.below H2.out.2.1) hbs hn H2.out.1).mono ?_
 rintro e w3 ⟨rfl, cu3, hc3⟩
 obtain ⟨x0, p1, k1, hx⟩ : ∃ x0 p1 k1, curN bs 0 true = (x0, p1, k1) := ⟨_, _, _, rfl⟩
 rw [hx] at cu3 ⊢
 have HX : Hid _ := hx
 clear hx
 simp only at cu3
 have C3 : Chg (fun g => g = w.heap.size + 1) W2 w3 := hc3
 have hs3 : w.heap.size + 1 + 1 ≤ w3.heap.size := Nat.le_trans hs2 hc3.size
 have b4 : Below w3.heap.size w3 ((w3.alloc (.cells #[.bool (x0 == 1), .slice none 0 0, .slice none 0 0, .slice none 0 0, .slice none 0 0] 54)).alloc (.cells #[] 3)) := Below.and (bel_new _ _) (bel_new _ _)
 have a4 : ((w3.alloc (.cells #[.bool (x0 == 1), .slice none 0 0, .slice none 0 0, .slice none 0 0, .slice none 0 0] 54)).alloc (.cells #[] 3)).heap[w3.heap.size]? = some (Obj.cells #[.bool (x0 == 1), .slice none 0 0, .slice none 0 0, .slice none 0 0, .slice none 0 0] 54 (0, 0)) := row_chg (heap_alloc_new _ _) (Chg.of_below (F := fun _ => False) (bel_new _ _)) id
 have s4 : ((w3.alloc (.cells #[.bool (x0 == 1), .slice none 0 0, .slice none 0 0, .slice none 0 0, .slice none 0 0] 54)).alloc (.cells #[] 3)).heap.size = w3.heap.size + 1 + 1 := by simp
 have H3 : Hid _ := And.intro cu3 C3
 clear cu3 hc3 C3
 go_wp2_with fail
 generalize hW4 : (w3.alloc (.cells #[.bool (x0 == 1), .slice none 0 0, .slice none 0 0, .slice none 0 0, .slice none 0 0] 54)).alloc (.cells #[] 3) = W4 at *
 have R4 : Row W4 (.slice av bs.length cv) bs.length (flatB bs) := H0.out.below (H2.out.2.1.trans ((H3.out.2.below (fun g _ hg => by omega) H2.out.2.1.size).trans (b4.mono (by omega))))
 refine (l5Num_any _ bs (w.heap.size + 1) p1 k1 W4 R4 hbs hn (H3.out.1.below b4)).mono ?_
 rintro e w5 ⟨rfl, cu5, hc5⟩
 obtain ⟨n, p2, k2, hy⟩ : ∃ n p2 k2, curN bs p1 k1 = (n, p2, k2) := ⟨_, _, _, rfl⟩
 rw [hy] at cu5 ⊢
 have HY : Hid _ := hy
 clear hy
 simp only at cu5
 have hA5 : w5.heap[w3.heap.size]? = some (Obj.cells #[.bool (x0 == 1), .slice none 0 0, .slice none 0 0, .slice none 0 0, .slice none 0 0] 54 (0, 0)) := row_chg a4 hc5 (by omega)
 have hs5 : w3.heap.size + 1 + 1 ≤ w5.heap.size := by have := hc5.size; omega
 have CW5 : Chg (fun g => g = w.heap.size + 1) W2 w5 := H3.out.2.trans ((Chg.of_below (F := fun g => g = w.heap.size + 1) b4).trans hc5 (fun _ _ h => h)) (fun _ _ h => h)
 have H5 : Hid _ := And.intro cu5 (And.intro hA5 CW5)
 obtain ⟨d0, d1, d2⟩ := cu5.cell
 have f5 := cu5.live
 clear cu5 hc5 hA5 CW5 b4 a4 s4 R4 H3 hW4
 go_upto_region 5 with fail
 go_cut [] (fun wx => CurAt wx (w.heap.size + 1) (.slice av bs.length cv) p2 (k2 && inB n 0 4) ∧ Hid (Chg (fun g => g = w.heap.size + 1) w5 wx))
 case first =>
  have hin : ∀ u, Calls Try.prog 16 #[.int .i64 n, .int .i64 0, .int .i64 4] u fun e w' => e = .returned (.bool (inB n 0 4)) ∧ u = w' := fun u => (l1InN_any n 0 4 u).mono (fun e w' h => ⟨h.1, h.2.symm⟩)
  cases k2 with
  | false =>
   go_wp2_with fail
   go_meet
   case rel => exact ⟨H5.out.1.setOk false, (Chg.refl (fun g => g = w.heap.size + 1) w5).setAt (w.heap.size + 1) 2 rfl _⟩
  | true =>
   go_wp2_with (go_at_call 16; refine (hin _).mono ?_; rintro e w' ⟨rfl, rfl⟩)
   go_meet
   case rel => exact ⟨H5.out.1.setOk _, (Chg.refl (fun g => g = w.heap.size + 1) w5).setAt (w.heap.size + 1) 2 rfl _⟩
 case rest =>
 obtain ⟨cu6, C6⟩ := hcut
 have C6' : Chg (fun g => g = w.heap.size + 1) W2 wc := H5.out.2.2.trans C6.out (fun _ _ h => h)
 have hA6 : BoxIs wc w3.heap.size (.bool (x0 == 1)) (.slice none 0 0) (.slice none 0 0) (.slice none 0 0) (.slice none 0 0) := row_chg H5.out.2.1 C6.out (by omega)
 have hs6 : w3.heap.size + 1 + 1 ≤ wc.heap.size := by have := C6.out.size; omega
 have HK : Hid ((k2 && inB n 0 4) = true → getN bs 0 = some (x0, p1) ∧ countN bs p1 0 4 = some (n, p2)) := (head_read HX.out HY.out).1
 have HN : Hid ((k2 && inB n 0 4) = false → specRead bs = none) := (head_read HX.out HY.out).2
 generalize (k2 && inB n 0 4) = k3 at *
 have H6 : Hid _ := And.intro cu6 (And.intro hA6 C6')
 clear cu6 C6 hA6 C6' H5 d0 d1 d2 f5 hs5
 generalize wc = w6 at *
 go_upto_block 0 with fail
 go_cut [] (fun wx => ∃ (at_ : Int) (k : Bool) (l : List (Int × Int)) (ap : Option Addr) (qp : Nat), CurAt wx (w.heap.size + 1) (.slice av bs.length cv) at_ k ∧ BoxIs wx w3.heap.size (.bool (x0 == 1)) (.slice ap l.length qp) (.slice none 0 0) (.slice none 0 0) (.slice none 0 0) ∧ OwnE wx w6.heap.size 76 2 (.slice ap l.length qp) l.length (flatP l) ∧ Hid (Chg (fun g => g = w.heap.size + 1 ∨ g = w3.heap.size) w6 wx) ∧
  Hid ((k = false ∧ l.length ≤ 4 ∧ specRead bs = none) ∨ (k = true ∧ k3 = true ∧ x0 = 1 ∧ pairsN bs p2 n.toNat = some (l, at_)) ∨ (k = true ∧ k3 = true ∧ x0 ≠ 1 ∧ l = [] ∧ at_ = p2)))
 case first =>
  as_aux_lemma =>
   go_wp2_with fail
   go_loopw [9] (fun i wr => ∃ (j : Nat) (at_ : Int) (k : Bool) (l : List (Int × Int)) (ap : Option Addr) (qp : Nat), i = .int .i64 j ∧ CurAt wr (w.heap.size + 1) (.slice av bs.length cv) at_ k ∧ BoxIs wr w3.heap.size (.bool (x0 == 1)) (.slice ap l.length qp) (.slice none 0 0) (.slice none 0 0) (.slice none 0 0) ∧ OwnE wr w6.heap.size 76 2 (.slice ap l.length qp) l.length (flatP l) ∧ Hid (Chg (fun g => g = w.heap.size + 1 ∨ g = w3.heap.size) w6 wr) ∧
    ((k = false ∧ l.length ≤ 4 ∧ specRead bs = none) ∨ (k = true ∧ k3 = true ∧ pairsN bs p2 j = some (l, at_) ∧ (j : Int) ≤ n ∧ (x0 ≠ 1 → j = 0))))
    (fun i _ => n.toNat - (intOf i).toNat)
   case atStart =>
    refine ⟨0, p2, k3, [], none, 0, rfl, H6.out.1, H6.out.2.1, OwnE.nil _ _ _ _, Chg.refl _ _, ?_⟩
    cases k3 with
    | false => exact .inl ⟨rfl, by simp, HN.out rfl⟩
    | true => exact .inr ⟨rfl, rfl, rfl, by have := countN_in (HK.out rfl).2; omega, fun _ => rfl⟩
   case round =>
    obtain ⟨j, at_, k, l, ap, qp, rfl, hcu, hbx, hown, hch, hR⟩ := hrel
    obtain ⟨d0, d1, d2⟩ := hcu.cell
    have f2 := hcu.live
    obtain ⟨e0, e1, e2, e3, e4⟩ := hbx.cell
    have f1 := hbx.live
    have I : Hid _ := And.intro hcu (And.intro hbx (And.intro hown hch.out))
    clear hcu hbx hown hch
    rcases hR with ⟨rfl, hl, hnone⟩ | ⟨rfl, rfl, hpn, hjn, hx1⟩
    ·have HQ : Hid _ := And.intro hl hnone
     clear hl hnone
     by_cases hlt : (j : Int) < n
     ·go_wp2_with fail
      go_meet
      case rel => exact ⟨at_, false, l, ap, qp, I.out.1, I.out.2.1, I.out.2.2.1, I.out.2.2.2, .inl ⟨rfl, HQ.out⟩⟩
     ·go_wp2_with fail
      go_meet
      case rel => exact ⟨at_, false, l, ap, qp, I.out.1, I.out.2.1, I.out.2.2.1, I.out.2.2.2, .inl ⟨rfl, HQ.out⟩⟩
    ·have HQ : Hid _ := And.intro hpn (And.intro hjn hx1)
     clear hpn hx1
     by_cases hlt : (j : Int) < n
     ·by_cases hx : x0 = 1
      ·
       have hxb : (x0 == 1) = true := by simp [hx]
       have BW : Below w.heap.size w wr := H2.out.2.1.trans ((H6.out.2.2.below (fun g _ hg => by omega) H2.out.2.1.size).trans (I.out.2.2.2.below (fun g _ hg => by omega) (by omega)))
       have hwr : w6.heap.size ≤ wr.heap.size := I.out.2.2.2.size
       have hn4 : n ≤ 4 := (countN_in (HK.out rfl).2).2.1
       have hl4 : l.length ≤ 3 := by have := pairsN_length HQ.out.1; have := countN_in (HK.out rfl).2; omega
       go_wp2_with fail
       refine (l5Num_any _ bs (w.heap.size + 1) at_ true wr (H0.out.below BW) hbs hn I.out.1).mono ?_
       rintro e w7 ⟨rfl, cu7, hc7⟩
       obtain ⟨x, q1, kx, hX⟩ : ∃ x q1 kx, curN bs at_ true = (x, q1, kx) := ⟨_, _, _, rfl⟩
       rw [hX] at cu7 ⊢
       have HX1 : Hid _ := hX
       clear hX
       simp only at cu7
       have b8 : Below w7.heap.size w7 (w7.alloc (.cells #[.int .i64 x, .int .i64 0] 76)) := bel_new _ _
       have n8 := heap_alloc_new w7 (.cells #[.int .i64 x, .int .i64 0] 76)
       have hs7 : wr.heap.size ≤ w7.heap.size := hc7.size
       clear d0 d1 d2 f2 e0 e1 e2 e3 e4 f1
       go_wp2_with fail
       generalize w7.alloc (.cells #[.int .i64 x, .int .i64 0] 76) = w8 at *
       have B8 : Below w.heap.size w w8 := BW.trans ((hc7.below (fun g _ hg => by omega) BW.size).trans (b8.mono (by omega)))
       refine (l5Num_any _ bs (w.heap.size + 1) q1 kx w8 (H0.out.below B8) hbs hn (cu7.below b8)).mono ?_
       rintro e w9 ⟨rfl, cu9, hc9⟩
       obtain ⟨y, q2, ky, hY⟩ : ∃ y q2 ky, curN bs q1 kx = (y, q2, ky) := ⟨_, _, _, rfl⟩
       rw [hY] at cu9 ⊢
       have HY1 : Hid _ := hY
       clear hY
       simp only at cu9
       have n9 : w9.heap[w7.heap.size]? = some (Obj.cells #[.int .i64 x, .int .i64 0] 76 (0, 0)) := row_chg n8 hc9 (by omega)
       have C9 : Chg (fun g => g = w.heap.size + 1) wr w9 := hc7.trans ((Chg.of_below (F := fun g => g = w.heap.size + 1) b8).trans hc9 (fun _ _ h => h)) (fun _ _ h => h)
       have g1 : w9.cell? ⟨w7.heap.size, 1, none⟩ = some (.int .i64 0) := by rw [cell_of_cells n9]; rfl
       have g2 : w9.frozen? ⟨w7.heap.size, 1, none⟩ = false := frozen_of_cells n9
       have n10 := heap_setCell_same w9 w7.heap.size 1 _ _ (.int .i64 y) n9
       have C10 : Chg (fun g => g = w.heap.size + 1) wr (w9.setCell ⟨w7.heap.size, 1, none⟩ (.int .i64 y)) := C9.trans ((Chg.refl (fun g => g = w7.heap.size) w9).setAt w7.heap.size 1 rfl (.int .i64 y)) (fun g hg e => by omega)
       have cu10 : CurAt (w9.setCell ⟨w7.heap.size, 1, none⟩ (.int .i64 y)) (w.heap.size + 1) (.slice av bs.length cv) q2 ky := cu9.chg ((Chg.refl (fun g => g = w7.heap.size) w9).setAt w7.heap.size 1 rfl (.int .i64 y)) (by omega)
       clear cu7 cu9 hc7 hc9 b8 n8 B8 n9 C9
       go_upto_region 11 with fail
       generalize w9.setCell ⟨w7.heap.size, 1, none⟩ (.int .i64 y) = w10 at *
       clear g1 g2
       have n10' : w10.heap[w7.heap.size]? = some (Obj.cells #[.int .i64 x, .int .i64 y] 76 (0, 0)) := by simpa using n10
       have t10 : BoxIs w10 w3.heap.size (.bool (x0 == 1)) (.slice ap l.length qp) (.slice none 0 0) (.slice none 0 0) (.slice none 0 0) := I.out.2.1.chg C10 (by omega)
       have o10 : OwnE w10 w6.heap.size 76 2 (.slice ap l.length qp) l.length (flatP l) := I.out.2.2.1.chg C10 (fun g hg e => by have := (I.out.2.2.1.lt g hg).1; omega)
       obtain ⟨e0, e1, e2, e3, e4⟩ := t10.cell
       have m0 : w10.cell? ⟨w7.heap.size, 0, none⟩ = some (.int .i64 x) := by rw [cell_of_cells n10']; rfl
       have m1 : w10.cell? ⟨w7.heap.size, 1, none⟩ = some (.int .i64 y) := by rw [cell_of_cells n10']; rfl
       have C10' : Chg (fun g => g = w.heap.size + 1 ∨ g = w3.heap.size) w6 w10 := I.out.2.2.2.trans C10 (fun _ _ h => .inl h)
       have hs10 : w6.heap.size ≤ w10.heap.size := C10'.size
       have J : Hid _ := And.intro cu10 (And.intro t10 (And.intro o10 C10'))
       have HRm : Hid _ := roomP (n := l.length) (m := 1) (by omega)
       have hbase : w6.heap.size ≤ (w10.alloc (.cells #[.int .i64 x, .int .i64 y] 76)).heap.size := by simp; omega
       clear cu10 t10 o10 C10 C10' n10 n10'
       go_wp2_with (at_builtin; refine list_appE (w10.alloc (.cells #[.int .i64 x, .int .i64 y] 76)) rfl _ _ 49 rfl w6.heap.size 76 i0 _ 2 16 Try.underlying49 hi hz0 hz1 hz2 rfl (by decide) (.slice ap l.length qp) l.length (flatP l) rfl (J.out.2.2.1.below (bel_new _ _)) (.slice (some ⟨w10.heap.size, 0, none⟩) 1 1) 1 (flatP [(x, y)]) rfl (Row.laid w10 (flatP [(x, y)]) 76 _ rfl) rfl (flatP_oneC _) HRm.out.1 HRm.out.2 hbase ?_)
       intro v11 w11 A11
       obtain ⟨o11, c11, _, _⟩ := A11
       have hlo : ∀ g, wrB (.slice ap l.length qp) g → w6.heap.size ≤ g := fun g hg => (J.out.2.2.1.lt g hg).1
       have ca : Chg (fun _ => False) w10 (w10.alloc (.cells #[.int .i64 x, .int .i64 y] 76)) := Chg.of_below (bel_new _ _)
       have t11 : BoxIs w11 w3.heap.size (.bool (x0 == 1)) (.slice ap l.length qp) (.slice none 0 0) (.slice none 0 0) (.slice none 0 0) := (J.out.2.1.chg ca id).chg c11 (fun e => by have := hlo _ e; omega)
       have cu11 : CurAt w11 (w.heap.size + 1) (.slice av bs.length cv) q2 ky := (J.out.1.chg ca id).chg c11 (fun e => by have := hlo _ e; omega)
       have C11 : Chg (fun g => g = w.heap.size + 1 ∨ g = w3.heap.size) w6 w11 := ((J.out.2.2.2).alloc _).trans c11 (fun g hg e => by have := hlo g e; omega)
       obtain ⟨a11, q11, hv11⟩ := o11.slice
       subst hv11
       have o11' : OwnE w11 w6.heap.size 76 2 (.slice a11 (l.length + 1) q11) (l ++ [(x, y)]).length (flatP (l ++ [(x, y)])) := by rw [flatP_append]; simpa using o11
       obtain ⟨r0, r1, r2, r3, r4⟩ := t11.cell
       have fr := t11.live
       have hcs : Chg (fun g => g = w3.heap.size) w11 (w11.setCell ⟨w3.heap.size, 1, none⟩ (.slice a11 (l.length + 1) q11)) := (Chg.refl (fun g => g = w3.heap.size) w11).setAt w3.heap.size 1 rfl _
       have bxs : BoxIs (w11.setCell ⟨w3.heap.size, 1, none⟩ (.slice a11 (l.length + 1) q11)) w3.heap.size (.bool (x0 == 1)) (.slice a11 (l.length + 1) q11) (.slice none 0 0) (.slice none 0 0) (.slice none 0 0) := by
        have := heap_setCell_same w11 w3.heap.size 1 _ _ (.slice a11 (l.length + 1) q11) t11
        unfold BoxIs
        simpa using this
       have FIN : Hid (CurAt (w11.setCell ⟨w3.heap.size, 1, none⟩ (.slice a11 (l.length + 1) q11)) (w.heap.size + 1) (.slice av bs.length cv) q2 ky ∧ BoxIs (w11.setCell ⟨w3.heap.size, 1, none⟩ (.slice a11 (l.length + 1) q11)) w3.heap.size (.bool (x0 == 1)) (.slice a11 (l ++ [(x, y)]).length q11) (.slice none 0 0) (.slice none 0 0) (.slice none 0 0) ∧ OwnE (w11.setCell ⟨w3.heap.size, 1, none⟩ (.slice a11 (l.length + 1) q11)) w6.heap.size 76 2 (.slice a11 (l ++ [(x, y)]).length q11) (l ++ [(x, y)]).length (flatP (l ++ [(x, y)])) ∧ Chg (fun g => g = w.heap.size + 1 ∨ g = w3.heap.size) w6 (w11.setCell ⟨w3.heap.size, 1, none⟩ (.slice a11 (l.length + 1) q11))) :=
        ⟨cu11.chg hcs (by omega), by simpa using bxs, by simpa using o11'.chg hcs (fun g hg e => by have := (o11'.lt g hg).1; omega), C11.trans hcs (fun _ _ h => .inr h)⟩
       have HS := pair_step HQ.out.1 HX1.out HY1.out
       have HS' : Hid _ := HS
       clear o11 c11 hlo ca t11 cu11 C11 o11' hcs bxs HS J e0 e1 e2 e3 e4 m0 m1
       go_wp2
       go_roundw
       case rel =>
        refine ⟨j + 1, q2, ky, l ++ [(x, y)], a11, q11, by go_num, FIN.out.1, FIN.out.2.1, FIN.out.2.2.1, FIN.out.2.2.2, ?_⟩
        cases ky with
        | false => exact .inl ⟨rfl, by simp; omega, spec_leaf_none (by rw [← hx]; exact (HK.out (by trivial)).1) (HK.out (by trivial)).2 (j := j + 1) (by omega) (HS'.out.2 rfl)⟩
        | true => exact .inr ⟨rfl, by trivial, HS'.out.1 rfl, by omega, fun h => absurd hx h⟩
       case measure => simp [intOf]; omega
      ·have hxb : (x0 == 1) = false := by simp [hx]
       go_wp2_with fail
       go_meet
       case rel =>
        have hj := HQ.out.2.2 hx
        subst hj
        have := HQ.out.1
        simp only [pairsN, Option.some.injEq, Prod.mk.injEq] at this
        exact ⟨at_, true, l, ap, qp, I.out.1, I.out.2.1, I.out.2.2.1, I.out.2.2.2, .inr (.inr ⟨rfl, by trivial, hx, this.1.symm, this.2.symm⟩)⟩
     ·go_wp2_with fail
      go_meet
      case rel =>
       refine ⟨at_, true, l, ap, qp, I.out.1, I.out.2.1, I.out.2.2.1, I.out.2.2.2, .inr ?_⟩
       have hjn : j = n.toNat := by omega
       by_cases hx : x0 = 1
       ·exact .inl ⟨rfl, by trivial, hx, by rw [← hjn]; exact HQ.out.1⟩
       ·have hj := HQ.out.2.2 hx
        subst hj
        have := HQ.out.1
        simp only [pairsN, Option.some.injEq, Prod.mk.injEq] at this
        exact .inr ⟨rfl, by trivial, hx, this.1.symm, this.2.symm⟩
 case rest =>
 obtain ⟨at7, k7, l, ap, qp, cu7, bx7, ow7, C7, R7⟩ := hcut
 have H7 : Hid _ := And.intro cu7 (And.intro bx7 (And.intro ow7 C7.out))
 obtain ⟨d0, d1, d2⟩ := cu7.cell
 have f7 := cu7.live
 obtain ⟨e0, e1, e2, e3, e4⟩ := bx7.cell
 have f8 := bx7.live
 clear cu7 bx7 ow7 C7
 generalize wc = w7 at *
 go_upto_region 12 with fail
 go_cut [74] (fun s74 wx => s74 = .bool (!(x0 == 1) && k7) ∧ w7 = wx)
 case first =>
  have hnot : ∀ (x : Bool) (w : World), (Op.unary .not (.bool x)).run Try.prog w = .ok (.bool (!x)) w := fun _ _ => rfl
  cases hxb : (x0 == 1) with
  | true =>
   rw [hxb] at e0
   go_wp2_with fail
   go_meet
   case rel => exact ⟨by rw [hxb]; simp, rfl⟩
  | false =>
   rw [hxb] at e0
   go_wp2_with fail
   go_meet
   case rel => exact ⟨by rw [hxb]; simp, rfl⟩
 case rest =>
 obtain ⟨rfl, rfl⟩ := hcut
 obtain ⟨c74, hc74⟩ : ∃ c, (!(x0 == 1) && k7) = c := ⟨_, rfl⟩
 rw [hc74]
 have HC : Hid _ := hc74
 clear hc74
 go_upto_if 74 with fail
 go_cut [7] (fun s7 wx => ∃ (at_ : Int) (k : Bool) (x : TV) (T : Tr) (ks : List Int) (ak : Option Addr) (qk : Nat), s7 = .slice ak ks.length qk ∧ CurAt wx (w.heap.size + 1) (.slice av bs.length cv) at_ k ∧ BoxIs wx w3.heap.size (.bool x.lf) x.p x.c x.k x.b ∧ Hid (∀ u, Chg (fun g => g = w.heap.size) wx u → (TreeAt 2 u x T ∧ Row u (.slice ak ks.length qk) ks.length (flatI ks)) ∧ NodeOwnS (w.heap.size + 1) u x (.slice ak ks.length qk) T ks) ∧ (T.pairs.length ≤ 10 ∧ T.cuts.length ≤ 10 ∧ T.kids.length ≤ 10 ∧ T.buf.length ≤ 10 ∧ ks.length ≤ 10) ∧ Hid (Chg (fun g => g = w.heap.size + 1 ∨ g = w3.heap.size) w7 wx) ∧
  Hid ((k = false ∧ specRead bs = none) ∨ (k = true ∧ ∃ nv, specRead bs = some (nv, at_) ∧ T = treeV nv ∧ ks = kidsV nv)))
 case first =>
  have rn : ∀ (u : World), Row u (.slice none 0 0) 0 [] := fun u => ⟨none, 0, 0, 0, rfl, Nat.le_refl _, by decide, fun h => absurd h (by decide), fun j x hj => by simp at hj, fun _ => rfl⟩
  have rk : ∀ (u : World) (g : Nat), Row u (.slice (some ⟨g, 0, none⟩) 0 0) 0 [] := fun u g => ⟨some ⟨g, 0, none⟩, g, 0, 0, rfl, Nat.le_refl _, by decide, fun h => absurd h (by decide), fun j x hj => by simp at hj, fun h => by cases h⟩
  have rp : ∀ u, Chg (fun g => g = w.heap.size) w7 u → Row u (.slice ap l.length qp) l.length (flatP l) := fun u hu => (H7.out.2.2.1.chg hu (fun g hg e => by have := (H7.out.2.2.1.lt g hg).1; omega)).row'
  have TT : ∀ u, Chg (fun g => g = w.heap.size) w7 u → TreeAt 2 u ⟨x0 == 1, .slice ap l.length qp, .slice none 0 0, .slice none 0 0, .slice none 0 0⟩ ⟨x0 == 1, l, [], [], []⟩ := fun u hu => TreeAt.mk rfl (rp u hu) (rn _) (rn _) ⟨[], rfl, rn _, fun i hi => by simp at hi⟩
  have NO : ∀ (u : World) (g : Nat), Chg (fun g => g = w.heap.size) w7 u → NodeOwnS (w.heap.size + 1) u ⟨x0 == 1, .slice ap l.length qp, .slice none 0 0, .slice none 0 0, .slice none 0 0⟩ (.slice (some ⟨g, 0, none⟩) 0 0) ⟨x0 == 1, l, [], [], []⟩ [] := fun u g hu => ⟨(H7.out.2.2.1.chg hu (fun g hg e => by have := (H7.out.2.2.1.lt g hg).1; omega)).mono (by omega), OwnE.nil _ _ _ _, OwnE.nil _ _ _ _, OwnE.nil _ _ _ _, OwnE.zero _ _ _ _ _⟩
  have HT : Hid _ := And.intro TT (And.intro rk NO)
  clear rn rk rp TT NO
  cases c74 with
  | false =>
   go_wp2_with fail
   go_meet
   case rel =>
    rcases R7.out with ⟨rfl, hl, hno⟩ | ⟨rfl, hk3, hx, hp⟩ | ⟨rfl, _, hx, _⟩
    ·exact ⟨at7, false, _, _, [], _, _, rfl, H7.out.1, H7.out.2.1, fun u hu => ⟨⟨HT.out.1 u hu, HT.out.2.1 _ _⟩, HT.out.2.2 u _ hu⟩, by simp; omega, Chg.refl _ _, .inl ⟨rfl, hno⟩⟩
    ·have hcn := (HK.out hk3).2
     refine ⟨at7, true, _, _, [], _, _, rfl, H7.out.1, H7.out.2.1, fun u hu => ⟨⟨HT.out.1 u hu, HT.out.2.1 _ _⟩, HT.out.2.2 u _ hu⟩, ?_, Chg.refl _ _, .inr ⟨rfl, .inl l, ?_, ?_, rfl⟩⟩
     ·have := pairsN_length hp
      have := countN_in hcn
      simp; omega
     ·unfold specRead sleafA
      rw [(HK.out hk3).1]
      simp only [hcn]
      rw [if_pos hx, hp]
     ·simp [treeV, hx]
    ·exfalso
     have := HC.out
     simp at this
     exact hx this
  | true =>
   have hC : (!(x0 == 1) && k7) = true := HC.out
   simp only [Bool.and_eq_true, Bool.not_eq_true', beq_eq_false_iff_ne] at hC
   obtain ⟨hx0, hk7⟩ := hC
   subst hk7
   have hxb : (x0 == 1) = false := by simp [hx0]
   obtain ⟨hk3, hl, hat⟩ : k3 = true ∧ l = [] ∧ at7 = p2 := by
    rcases R7.out with ⟨h, _⟩ | ⟨_, _, h, _⟩ | ⟨_, h1, _, h2, h3⟩
    ·cases h
    ·exact absurd h hx0
    ·exact ⟨h1, h2, h3⟩
   subst hl hat
   have FH : Hid (ForkH bs n at7) := ⟨x0, p1, (HK.out hk3).1, hx0, (HK.out hk3).2⟩
   obtain ⟨hn0, hn4⟩ := FH.out.n4
   rw [hxb] at H7 e0
   obtain ⟨j0, hj, hj0, hj1, hj2⟩ := info_parts Try.infoInt
   obtain ⟨t0, ht, ht0, ht1, ht2⟩ := info_parts Try.infoTree
   obtain ⟨g0, hg, hg0, hg1, hg2⟩ := info_parts Try.infoMsg
   have BW7 : Hid (Below w.heap.size w w7 ∧ w3.heap.size + 1 + 1 ≤ w7.heap.size) := ⟨H2.out.2.1.trans ((H6.out.2.2.below (fun g _ hg => by omega) H2.out.2.1.size).trans (H7.out.2.2.2.below (fun g _ hg => by omega) (by omega))), by have := H7.out.2.2.2.size; omega⟩
   clear R7 HC HT
   go_upto_block 2 with fail
   go_cut [7] (fun s7 wx => ∃ (at_ : Int) (k : Bool) (ks : List Int) (ak : Option Addr) (qk : Nat) (at3 : Option Addr) (q3 : Nat), s7 = .slice ak ks.length qk ∧ ks.length = n.toNat ∧ CurAt wx (w.heap.size + 1) (.slice av bs.length cv) at_ k ∧ BoxIs wx w3.heap.size (.bool false) (.slice ap 0 qp) (.slice none 0 0) (.slice at3 n.toNat q3) (.slice none 0 0) ∧ Hid (OwnE wx w7.heap.size 3 1 (.slice ak ks.length qk) ks.length (flatI ks) ∧ OwnE wx w7.heap.size 54 5 (.slice at3 n.toNat q3) n.toNat (flatT (List.replicate n.toNat ⟨false, .slice none 0 0, .slice none 0 0, .slice none 0 0, .slice none 0 0⟩)) ∧ Chg (fun g => g = w.heap.size + 1 ∨ g = w3.heap.size) w7 wx) ∧
    Hid ((k = false ∧ specRead bs = none) ∨ (k = true ∧ numsN bs at7 n.toNat = some (ks, at_))))
   case first =>
    as_aux_lemma =>
     go_wp2_with fail
     go_loopw [7, 11] (fun s i wr => ∃ (j : Nat) (at_ : Int) (k : Bool) (ks : List Int) (ak : Option Addr) (qk : Nat) (at3 : Option Addr) (q3 : Nat), i = .int .i64 j ∧ s = .slice ak ks.length qk ∧ ks.length = j ∧ (j : Int) ≤ n ∧ CurAt wr (w.heap.size + 1) (.slice av bs.length cv) at_ k ∧ BoxIs wr w3.heap.size (.bool false) (.slice ap 0 qp) (.slice none 0 0) (.slice at3 j q3) (.slice none 0 0) ∧ Hid (OwnE wr w7.heap.size 3 1 (.slice ak ks.length qk) ks.length (flatI ks) ∧ OwnE wr w7.heap.size 54 5 (.slice at3 j q3) j (flatT (List.replicate j ⟨false, .slice none 0 0, .slice none 0 0, .slice none 0 0, .slice none 0 0⟩)) ∧ Chg (fun g => g = w.heap.size + 1 ∨ g = w3.heap.size) w7 wr) ∧ Hid ((k = false ∧ specRead bs = none) ∨ (k = true ∧ numsN bs at7 j = some (ks, at_))))
      (fun _ i _ => n.toNat - (intOf i).toNat)
     case atStart => exact ⟨0, at7, true, [], _, 0, none, 0, rfl, rfl, rfl, hn0, H7.out.1, H7.out.2.1, ⟨OwnE.zero _ _ _ _ _, OwnE.nil _ _ _ _, Chg.refl _ _⟩, .inr ⟨rfl, rfl⟩⟩
     case round =>
      obtain ⟨j, at_, k, ks, ak, qk, at3, q3, rfl, rfl, hkl, hjn, hcu, hbx, hO, hR⟩ := hrel
      clear d0 d1 d2 f7 e0 e1 e2 e3 e4 f8
      have I : Hid _ := And.intro hcu (And.intro hbx hO.out)
      have hk4 : ks.length ≤ 4 := by omega
      have HKL : Hid (ks.length = j) := hkl
      clear hcu hbx hO hkl
      by_cases hlt : (j : Int) < n
      ·have BW : Below w.heap.size w wr := BW7.out.1.trans (I.out.2.2.2.2.below (fun g _ hg => by have := BW7.out.2; omega) BW7.out.1.size)
       have hwr : w7.heap.size ≤ wr.heap.size := I.out.2.2.2.2.size
       have h37 := BW7.out.2
       go_wp2_with fail
       refine (l5Num_any _ bs (w.heap.size + 1) at_ k wr (H0.out.below BW) hbs hn I.out.1).mono ?_
       rintro e w8 ⟨rfl, cu8, hc8⟩
       obtain ⟨x, q1, kx, hX⟩ : ∃ x q1 kx, curN bs at_ k = (x, q1, kx) := ⟨_, _, _, rfl⟩
       rw [hX] at cu8 ⊢
       have HX1 : Hid _ := hX
       clear hX
       simp only at cu8
       have o8 := I.out.2.2.1.chg hc8 (fun g hg e => by have := (I.out.2.2.1.lt g hg).1; omega)
       have t8 := I.out.2.2.2.1.chg hc8 (fun g hg e => by have := (I.out.2.2.2.1.lt g hg).1; omega)
       have b8 := I.out.2.1.chg hc8 (by omega)
       have C8 : Chg (fun g => g = w.heap.size + 1 ∨ g = w3.heap.size) w7 w8 := I.out.2.2.2.2.trans hc8 (fun _ _ h => .inl h)
       have hs8 : w7.heap.size ≤ w8.heap.size := C8.size
       have J : Hid _ := And.intro cu8 (And.intro b8 (And.intro o8 (And.intro t8 C8)))
       have HRm : Hid _ := roomI (n := ks.length) (m := 1) (by omega)
       have hbase : w7.heap.size ≤ (w8.alloc (.cells #[.int .i64 x] 3)).heap.size := by simp; omega
       clear cu8 hc8 o8 t8 b8 C8 BW
       go_wp2_with (at_builtin; refine list_appE (w8.alloc (.cells #[.int .i64 x] 3)) rfl _ _ 50 rfl w7.heap.size 3 j0 _ 1 8 Try.underlying50 hj hj0 hj1 hj2 rfl (by decide) (.slice ak ks.length qk) ks.length (flatI ks) rfl (J.out.2.2.1.below (bel_new _ _)) (.slice (some ⟨w8.heap.size, 0, none⟩) 1 1) 1 (flatI [x]) rfl (Row.laid w8 (flatI [x]) 3 _ rfl) rfl (flatI_oneC _) HRm.out.1 HRm.out.2 hbase ?_)
       intro v9 w9 A9
       obtain ⟨o9, c9, _, _⟩ := A9
       have hlo : ∀ g, wrB (.slice ak ks.length qk) g → w7.heap.size ≤ g := fun g hg => (J.out.2.2.1.lt g hg).1
       have ca : Chg (fun _ => False) w8 (w8.alloc (.cells #[.int .i64 x] 3)) := Chg.of_below (bel_new _ _)
       have ta := J.out.2.2.2.1.chg ca (fun _ _ h => h)
       have b9 := (J.out.2.1.chg ca id).chg c9 (fun e => by have := hlo _ e; omega)
       have cu9 := (J.out.1.chg ca id).chg c9 (fun e => by have := hlo _ e; omega)
       have t9 := ta.chg c9 (fun g hg hk => wrB_ne ta (J.out.2.2.1.chg ca (fun _ _ h => h)) (by decide) hg hk)
       have C9 : Chg (fun g => g = w.heap.size + 1 ∨ g = w3.heap.size) w7 w9 := ((J.out.2.2.2.2).alloc _).trans c9 (fun g hg e => by have := hlo g e; omega)
       obtain ⟨a9, q9, hv9⟩ := o9.slice
       subst hv9
       have o9' : OwnE w9 w7.heap.size 3 1 (.slice a9 (ks ++ [x]).length q9) (ks ++ [x]).length (flatI (ks ++ [x])) := by rw [flatI_append]; simpa using o9
       obtain ⟨r0, r1, r2, r3, r4⟩ := b9.cell
       have K : Hid _ := And.intro cu9 (And.intro b9 (And.intro o9' (And.intro t9 C9)))
       have HRt : Hid _ := roomT (n := j) (m := 1) (by omega)
       have hs9 : w7.heap.size ≤ w9.heap.size := C9.size
       have hbase2 : w7.heap.size ≤ (w9.alloc (.cells #[.bool false, .slice none 0 0, .slice none 0 0, .slice none 0 0, .slice none 0 0] 54)).heap.size := by simp; omega
       clear o9 c9 hlo ca ta b9 cu9 t9 C9 o9' J HRm hbase
       go_wp2_with (at_builtin; refine list_appE (w9.alloc (.cells #[.bool false, .slice none 0 0, .slice none 0 0, .slice none 0 0, .slice none 0 0] 54)) rfl _ _ 51 rfl w7.heap.size 54 t0 _ 5 104 Try.underlying51 ht ht0 ht1 ht2 rfl (by decide) (.slice at3 j q3) j (flatT (List.replicate j ⟨false, .slice none 0 0, .slice none 0 0, .slice none 0 0, .slice none 0 0⟩)) rfl (K.out.2.2.2.1.below (bel_new _ _)) (.slice (some ⟨w9.heap.size, 0, none⟩) 1 1) 1 (flatT [⟨false, .slice none 0 0, .slice none 0 0, .slice none 0 0, .slice none 0 0⟩]) rfl (Row.laid w9 (flatT [⟨false, .slice none 0 0, .slice none 0 0, .slice none 0 0, .slice none 0 0⟩]) 54 _ rfl) rfl zeroT_one HRt.out.1 HRt.out.2 hbase2 ?_)
       intro v10 w10 A10
       obtain ⟨o10, c10, _, _⟩ := A10
       have hlo : ∀ g, wrB (.slice at3 j q3) g → w7.heap.size ≤ g := fun g hg => (K.out.2.2.2.1.lt g hg).1
       have ca : Chg (fun _ => False) w9 (w9.alloc (.cells #[.bool false, .slice none 0 0, .slice none 0 0, .slice none 0 0, .slice none 0 0] 54)) := Chg.of_below (bel_new _ _)
       have ka := K.out.2.2.1.chg ca (fun _ _ h => h)
       have b10 := (K.out.2.1.chg ca id).chg c10 (fun e => by have := hlo _ e; omega)
       have cu10 := (K.out.1.chg ca id).chg c10 (fun e => by have := hlo _ e; omega)
       have k10 := ka.chg c10 (fun g hg hk => wrB_ne ka (K.out.2.2.2.1.chg ca (fun _ _ h => h)) (by decide) hg hk)
       have C10 : Chg (fun g => g = w.heap.size + 1 ∨ g = w3.heap.size) w7 w10 := ((K.out.2.2.2.2).alloc _).trans c10 (fun g hg e => by have := hlo g e; omega)
       obtain ⟨a10, q10, hv10⟩ := o10.slice
       subst hv10
       have o10' : OwnE w10 w7.heap.size 54 5 (.slice a10 (j + 1) q10) (j + 1) (flatT (List.replicate (j + 1) ⟨false, .slice none 0 0, .slice none 0 0, .slice none 0 0, .slice none 0 0⟩)) := by rw [List.replicate_succ', flatT_append]; exact o10
       obtain ⟨r0, r1, r2, r3, r4⟩ := b10.cell
       have fr := b10.live
       have hcs : Chg (fun g => g = w3.heap.size) w10 (w10.setCell ⟨w3.heap.size, 3, none⟩ (.slice a10 (j + 1) q10)) := (Chg.refl (fun g => g = w3.heap.size) w10).setAt w3.heap.size 3 rfl _
       have bxs : BoxIs (w10.setCell ⟨w3.heap.size, 3, none⟩ (.slice a10 (j + 1) q10)) w3.heap.size (.bool false) (.slice ap 0 qp) (.slice none 0 0) (.slice a10 (j + 1) q10) (.slice none 0 0) := by
        have := heap_setCell_same w10 w3.heap.size 3 _ _ (.slice a10 (j + 1) q10) b10
        unfold BoxIs
        simpa using this
       have FIN : Hid (CurAt (w10.setCell ⟨w3.heap.size, 3, none⟩ (.slice a10 (j + 1) q10)) (w.heap.size + 1) (.slice av bs.length cv) q1 kx ∧ BoxIs (w10.setCell ⟨w3.heap.size, 3, none⟩ (.slice a10 (j + 1) q10)) w3.heap.size (.bool false) (.slice ap 0 qp) (.slice none 0 0) (.slice a10 (j + 1) q10) (.slice none 0 0) ∧ OwnE (w10.setCell ⟨w3.heap.size, 3, none⟩ (.slice a10 (j + 1) q10)) w7.heap.size 3 1 (.slice a9 (ks ++ [x]).length q9) (ks ++ [x]).length (flatI (ks ++ [x])) ∧ OwnE (w10.setCell ⟨w3.heap.size, 3, none⟩ (.slice a10 (j + 1) q10)) w7.heap.size 54 5 (.slice a10 (j + 1) q10) (j + 1) (flatT (List.replicate (j + 1) ⟨false, .slice none 0 0, .slice none 0 0, .slice none 0 0, .slice none 0 0⟩)) ∧ Chg (fun g => g = w.heap.size + 1 ∨ g = w3.heap.size) w7 (w10.setCell ⟨w3.heap.size, 3, none⟩ (.slice a10 (j + 1) q10))) :=
        ⟨cu10.chg hcs (by omega), bxs, k10.chg hcs (fun g hg e => by have := (k10.lt g hg).1; omega), o10'.chg hcs (fun g hg e => by have := (o10'.lt g hg).1; omega), C10.trans hcs (fun _ _ h => .inr h)⟩
       have HS : Hid ((kx = false ∧ specRead bs = none) ∨ (kx = true ∧ numsN bs at7 (j + 1) = some (ks ++ [x], q1))) := by
        rcases hR.out with ⟨rfl, hno⟩ | ⟨rfl, hnu⟩
        ·exact .inl ⟨curN_off HX1.out, hno⟩
        ·have st := nums_step hnu HX1.out
         cases kx with
         | false => exact .inl ⟨rfl, FH.out.kids_none (j := j + 1) (by omega) (st.2 rfl)⟩
         | true => exact .inr ⟨rfl, st.1 rfl⟩
       clear o10 c10 hlo ca ka b10 cu10 k10 C10 o10' hcs bxs K HRt hbase2 hR HX1
       go_wp2
       go_roundw
       case rel => exact ⟨j + 1, q1, kx, ks ++ [x], a9, q9, a10, q10, by go_num, by simp, by have := HKL.out; simp; omega, by omega, FIN.out.1, FIN.out.2.1, FIN.out.2.2, HS⟩
       case measure => simp [intOf]; omega
      ·have hjn' : j = n.toNat := by omega
       subst hjn'
       go_wp2_with fail
       go_meet
       case rel => exact ⟨at_, k, ks, ak, qk, at3, q3, rfl, HKL.out, I.out.1, I.out.2.1, I.out.2.2, hR⟩
   case rest =>
   obtain ⟨at8, k8, ks, ak, qk, at3, q3, rfl, hkl, cu8, bx8, O8, R8⟩ := hcut
   have hk4 : ks.length ≤ 4 := by omega
   have HKL : Hid (ks.length = n.toNat) := hkl
   have H8 : Hid _ := And.intro cu8 (And.intro bx8 O8.out)
   clear d0 d1 d2 f7 e0 e1 e2 e3 e4 f8 hkl
   obtain ⟨d0, d1, d2⟩ := cu8.cell
   obtain ⟨e0, e1, e2, e3, e4⟩ := bx8.cell
   clear cu8 bx8 O8
   generalize wc = w8 at *
   have BW8 : Hid (Below w.heap.size w w8 ∧ w3.heap.size + 1 + 1 ≤ w8.heap.size) := ⟨BW7.out.1.trans (H8.out.2.2.2.2.below (fun g _ hg => by have := BW7.out.2; omega) BW7.out.1.size), by have := H8.out.2.2.2.2.size; have := BW7.out.2; omega⟩
   go_upto_block 4 with fail
   go_cut [] (fun wx => ∃ (at_ : Int) (k : Bool) (cs : List Int) (ac : Option Addr) (qc : Nat), cs.length = n.toNat - 1 ∧ CurAt wx (w.heap.size + 1) (.slice av bs.length cv) at_ k ∧ BoxIs wx w3.heap.size (.bool false) (.slice ap 0 qp) (.slice ac cs.length qc) (.slice at3 n.toNat q3) (.slice none 0 0) ∧ Hid (OwnE wx w8.heap.size 3 1 (.slice ac cs.length qc) cs.length (flatI cs) ∧ Chg (fun g => g = w.heap.size + 1 ∨ g = w3.heap.size) w8 wx) ∧
    Hid ((k = false ∧ specRead bs = none) ∨ (k = true ∧ k8 = true ∧ numsN bs at8 (n.toNat - 1) = some (cs, at_))))
   case first =>
    as_aux_lemma =>
     go_wp2_with fail
     go_loopw [12] (fun i wr => ∃ (j : Nat) (at_ : Int) (k : Bool) (cs : List Int) (ac : Option Addr) (qc : Nat), i = .int .i64 (j + 1 : Nat) ∧ cs.length = j ∧ j ≤ n.toNat - 1 ∧ CurAt wr (w.heap.size + 1) (.slice av bs.length cv) at_ k ∧ BoxIs wr w3.heap.size (.bool false) (.slice ap 0 qp) (.slice ac cs.length qc) (.slice at3 n.toNat q3) (.slice none 0 0) ∧ Hid (OwnE wr w8.heap.size 3 1 (.slice ac cs.length qc) cs.length (flatI cs) ∧ Chg (fun g => g = w.heap.size + 1 ∨ g = w3.heap.size) w8 wr) ∧ Hid ((k = false ∧ specRead bs = none) ∨ (k = true ∧ k8 = true ∧ numsN bs at8 j = some (cs, at_))))
      (fun i _ => n.toNat - (intOf i).toNat)
     case atStart =>
      refine ⟨0, at8, k8, [], none, 0, rfl, rfl, Nat.zero_le _, H8.out.1, H8.out.2.1, ⟨OwnE.nil _ _ _ _, Chg.refl _ _⟩, ?_⟩
      rcases R8.out with ⟨h, hno⟩ | ⟨h, _⟩
      ·exact .inl ⟨h, hno⟩
      ·exact .inr ⟨h, h, rfl⟩
     case round =>
      obtain ⟨j, at_, k, cs, ac, qc, rfl, hcl, hjn, hcu, hbx, hO, hR⟩ := hrel
      clear d0 d1 d2 e0 e1 e2 e3 e4
      have hc4 : cs.length ≤ 4 := by omega
      have HCL : Hid (cs.length = j) := hcl
      have I : Hid _ := And.intro hcu (And.intro hbx hO.out)
      have mb : wr.cell? ⟨w3.heap.size, 2, none⟩ = some (.slice ac cs.length qc) := hbx.cell.2.2.1
      clear hcu hbx hO hcl
      by_cases hlt : ((j + 1 : Nat) : Int) < n
      ·have BW : Below w.heap.size w wr := BW8.out.1.trans (I.out.2.2.2.below (fun g _ hg => by have := BW8.out.2; omega) BW8.out.1.size)
       have hwr : w8.heap.size ≤ wr.heap.size := I.out.2.2.2.size
       have h38 := BW8.out.2
       go_upto_region 21 with fail
       refine wp_region_last (fun u => u.cell? ⟨w3.heap.size, 2, none⟩ = some (.slice ac cs.length qc)) [_, _, _, _, _, _, _] _ rfl (by kernel_rfl) (by kernel_rfl) ?_
       have hS : wr.drew.cell? ⟨w3.heap.size, 2, none⟩ = some (.slice ac cs.length qc) := mb
       have ID : Hid (CurAt wr.drew (w.heap.size + 1) (.slice av bs.length cv) at_ k ∧ BoxIs wr.drew w3.heap.size (.bool false) (.slice ap 0 qp) (.slice ac cs.length qc) (.slice at3 n.toNat q3) (.slice none 0 0) ∧ OwnE wr.drew w8.heap.size 3 1 (.slice ac cs.length qc) cs.length (flatI cs) ∧ Chg (fun g => g = w.heap.size + 1 ∨ g = w3.heap.size) w8 wr.drew) := ⟨I.out.1, I.out.2.1, I.out.2.2.1.below (Below.refl _ _).drew, I.out.2.2.2.drew⟩
       have BD : Below w.heap.size w wr.drew := BW.drew
       have hwd : w8.heap.size ≤ wr.drew.heap.size := hwr
       clear mb I BW hwr
       generalize wr.drew = wd at *
       refine wpAnyH_take (i := 0) (oi := ⟨_, _, _, _, _, _⟩) (v := ?_) rfl (by kernel_rfl) (by kernel_rfl) (by kernel_rfl) (fun _ _ _ h => h) (Or.inl ⟨by rfl, ?_⟩) (by assumption) ?_
       rotate_left
       ·((intro w hSw; (try dsimp only at hSw); go_simp); (try with_reducible rfl))
       try simp only [Act.put, List.setIfInBounds_toArray, List.set_cons_zero, List.set_cons_succ]
       refine wpAnyH_take (i := 1) (oi := ⟨_, _, _, _, _, _⟩) (v := ?_) rfl (by kernel_rfl) (by kernel_rfl) (by kernel_rfl) (fun _ _ _ h => h) (Or.inl ⟨by rfl, ?_⟩) (by assumption) ?_
       rotate_left
       ·((intro w hSw; (try dsimp only at hSw); go_simp); (try with_reducible rfl))
       try simp only [Act.put, List.setIfInBounds_toArray, List.set_cons_zero, List.set_cons_succ]
       refine wpAnyH_take (i := 2) (oi := ⟨_, _, _, _, _, _⟩) (v := ?_) rfl (by kernel_rfl) (by kernel_rfl) (by kernel_rfl) (fun _ _ _ h => h) (Or.inl ⟨by rfl, ?_⟩) (by assumption) ?_
       rotate_left
       ·((intro w hSw; (try dsimp only at hSw); go_simp); (try with_reducible rfl))
       try simp only [Act.put, List.setIfInBounds_toArray, List.set_cons_zero, List.set_cons_succ]
       refine wpAnyH_ready (rs := [3]) (by kernel_rfl) (by simp) ?_
       refine AllReadyH.cons (o := ⟨_, _, _, _, _, _⟩) rfl (fun K hK => ?_) AllReadyH.nil
       have hrun : ∀ args w, (callFunc 55 args).run Try.prog w = .ok (.enter 55 args) w := fun args w => by go_simp
       refine step_fnB rfl 55 [.tmp 98] #[100] rfl hrun [.pointer (some ⟨w.heap.size + 1, 0, none⟩)] rfl (l5Num_any _ bs (w.heap.size + 1) at_ k wd (H0.out.below BD) hbs hn ID.out.1) ?_
       rintro e w9 ⟨rfl, cu9, hc9⟩
       obtain ⟨x, q1, kx, hX⟩ : ∃ x q1 kx, curN bs at_ k = (x, q1, kx) := ⟨_, _, _, rfl⟩
       rw [hX] at cu9 ⊢
       have HX1 : Hid _ := hX
       clear hX
       simp only at cu9
       have o9 := ID.out.2.2.1.chg hc9 (fun g hg e => by have := (ID.out.2.2.1.lt g hg).1; omega)
       have b9 := ID.out.2.1.chg hc9 (by omega)
       have C9 : Chg (fun g => g = w.heap.size + 1 ∨ g = w3.heap.size) w8 w9 := ID.out.2.2.2.trans hc9 (fun _ _ h => .inl h)
       have hs9 : w8.heap.size ≤ w9.heap.size := C9.size
       have m9 : w9.cell? ⟨w3.heap.size, 2, none⟩ = some (.slice ac cs.length qc) := b9.cell.2.2.1
       have J : Hid _ := And.intro cu9 (And.intro b9 (And.intro o9 C9))
       clear cu9 hc9 o9 b9 C9 ID BD hwd hS
       refine ⟨_, rfl, ?_⟩
       refine hK.out _ _ m9 (fun hH => ?_)
       clear hK K
       try simp only [Act.put, List.setIfInBounds_toArray, List.set_cons_zero, List.set_cons_succ]
       refine wpAnyH_ready (rs := [4]) (by kernel_rfl) (by simp) ?_
       refine AllReadyH.cons (o := ⟨_, _, _, _, _, _⟩) rfl (fun K hK => ?_) AllReadyH.nil
       go_simp
       refine hK.out _ _ (cell_lowB (bel_new w9 _) (cell_lt m9) m9) (fun hH => ?_)
       clear hK K
       try simp only [Act.put, List.setIfInBounds_toArray, List.set_cons_zero, List.set_cons_succ]
       refine wpAnyH_ready (rs := [5]) (by kernel_rfl) (by simp) ?_
       refine AllReadyH.cons (o := ⟨_, _, _, _, _, _⟩) rfl (fun K hK => ?_) AllReadyH.nil
       have HRm : Hid _ := roomI (n := cs.length) (m := 1) (by omega)
       refine step_appE (w9.alloc (.cells #[.int .i64 x] 3)) rfl _ _ 50 rfl w8.heap.size 3 j0 _ 1 8 Try.underlying50 hj hj0 hj1 hj2 rfl (by decide) (.slice ac cs.length qc) cs.length (flatI cs) rfl (J.out.2.2.1.below (bel_new _ _)) (.slice (some ⟨w9.heap.size, 0, none⟩) 1 1) 1 (flatI [x]) rfl (Row.laid w9 (flatI [x]) 3 _ rfl) rfl (flatI_oneC _) HRm.out.1 HRm.out.2 (by simp; omega) ?_
       intro v10 w10 A10
       obtain ⟨o10, c10, _, _⟩ := A10
       have hlo : ∀ g, wrB (.slice ac cs.length qc) g → w8.heap.size ≤ g := fun g hg => (J.out.2.2.1.lt g hg).1
       have ca : Chg (fun _ => False) w9 (w9.alloc (.cells #[.int .i64 x] 3)) := Chg.of_below (bel_new _ _)
       have b10 := (J.out.2.1.chg ca id).chg c10 (fun e => by have := hlo _ e; omega)
       have cu10 := (J.out.1.chg ca id).chg c10 (fun e => by have := hlo _ e; omega)
       have C10 : Chg (fun g => g = w.heap.size + 1 ∨ g = w3.heap.size) w8 w10 := ((J.out.2.2.2).alloc _).trans c10 (fun g hg e => by have := hlo g e; omega)
       obtain ⟨a10, q10, hv10⟩ := o10.slice
       subst hv10
       have o10' : OwnE w10 w8.heap.size 3 1 (.slice a10 (cs.length + 1) q10) (cs ++ [x]).length (flatI (cs ++ [x])) := by rw [flatI_append]; simpa using o10
       have m2 : w10.cell? ⟨w3.heap.size, 2, none⟩ = some (.slice ac cs.length qc) := b10.cell.2.2.1
       have f2 : w10.frozen? ⟨w3.heap.size, 2, none⟩ = false := b10.live 2
       have hcs : Chg (fun g => g = w3.heap.size) w10 (w10.setCell ⟨w3.heap.size, 2, none⟩ (.slice a10 (cs.length + 1) q10)) := (Chg.refl (fun g => g = w3.heap.size) w10).setAt w3.heap.size 2 rfl _
       have bxs : BoxIs (w10.setCell ⟨w3.heap.size, 2, none⟩ (.slice a10 (cs.length + 1) q10)) w3.heap.size (.bool false) (.slice ap 0 qp) (.slice a10 (cs.length + 1) q10) (.slice at3 n.toNat q3) (.slice none 0 0) := by
        have := heap_setCell_same w10 w3.heap.size 2 _ _ (.slice a10 (cs.length + 1) q10) b10
        unfold BoxIs
        simpa using this
       have FIN : Hid (CurAt (w10.setCell ⟨w3.heap.size, 2, none⟩ (.slice a10 (cs.length + 1) q10)) (w.heap.size + 1) (.slice av bs.length cv) q1 kx ∧ BoxIs (w10.setCell ⟨w3.heap.size, 2, none⟩ (.slice a10 (cs.length + 1) q10)) w3.heap.size (.bool false) (.slice ap 0 qp) (.slice a10 (cs ++ [x]).length q10) (.slice at3 n.toNat q3) (.slice none 0 0) ∧ OwnE (w10.setCell ⟨w3.heap.size, 2, none⟩ (.slice a10 (cs.length + 1) q10)) w8.heap.size 3 1 (.slice a10 (cs ++ [x]).length q10) (cs ++ [x]).length (flatI (cs ++ [x])) ∧ Chg (fun g => g = w.heap.size + 1 ∨ g = w3.heap.size) w8 (w10.setCell ⟨w3.heap.size, 2, none⟩ (.slice a10 (cs.length + 1) q10))) :=
        ⟨cu10.chg hcs (by omega), by simpa using bxs, by simpa using o10'.chg hcs (fun g hg e => by have := (o10'.lt g hg).1; omega), C10.trans hcs (fun _ _ h => .inr h)⟩
       have HS : Hid ((kx = false ∧ specRead bs = none) ∨ (kx = true ∧ k8 = true ∧ numsN bs at8 (j + 1) = some (cs ++ [x], q1))) := by
        rcases hR.out with ⟨rfl, hno⟩ | ⟨rfl, h8, hnu⟩
        ·exact .inl ⟨curN_off HX1.out, hno⟩
        ·have st := nums_step hnu HX1.out
         cases kx with
         | false =>
          rcases R8.out with ⟨h, _⟩ | ⟨_, hk⟩
          ·rw [h8] at h; cases h
          ·exact .inl ⟨rfl, FH.out.cuts_none hk (j := j + 1) (by omega) (st.2 rfl)⟩
         | true => exact .inr ⟨rfl, h8, st.1 rfl⟩
       clear o10 c10 hlo ca b10 cu10 C10 o10' hcs bxs J HRm hR HX1
       refine hK.out _ _ m2 (fun hH => ?_)
       clear hK K
       try simp only [Act.put, List.setIfInBounds_toArray, List.set_cons_zero, List.set_cons_succ]
       refine wpAnyH_take (i := 6) (oi := ⟨_, _, _, _, _, _⟩) (v := ?_) rfl (by kernel_rfl) (by kernel_rfl) (by kernel_rfl) (fun _ _ _ h => h) (Or.inl ⟨by rfl, ?_⟩) (by assumption) ?_
       rotate_left
       ·((intro w hSw; (try dsimp only at hSw); go_simp); (try with_reducible rfl))
       try simp only [Act.put, List.setIfInBounds_toArray, List.set_cons_zero, List.set_cons_succ]
       refine wpAnyH_done (by kernel_rfl) ?_ _
       show Oper.wp _ _ _ _ _ _
       go_simp
       go_wp2
       go_roundw
       case rel => exact ⟨j + 1, q1, kx, cs ++ [x], a10, q10, by go_num, by have := HCL.out; simp; omega, by omega, FIN.out.1, FIN.out.2.1, FIN.out.2.2, HS⟩
       case measure => simp [intOf]; omega
      ·have hje : j = n.toNat - 1 := by omega
       go_wp2_with fail
       go_meet
       case rel => exact ⟨at_, k, cs, ac, qc, by rw [HCL.out, hje], I.out.1, I.out.2.1, I.out.2.2, by rw [← hje]; exact hR⟩
   case rest =>
   obtain ⟨at9, k9, cs, ac, qc, hcl, cu9, bx9, O9, R9⟩ := hcut
   have hc4 : cs.length ≤ 4 := by omega
   have HCL : Hid (cs.length = n.toNat - 1) := hcl
   have H9 : Hid _ := And.intro cu9 (And.intro bx9 O9.out)
   clear d0 d1 d2 e0 e1 e2 e3 e4 hcl cu9 bx9 O9
   generalize wc = w9 at *
   have BW9 : Hid (Below w.heap.size w w9 ∧ w8.heap.size ≤ w9.heap.size) := ⟨BW8.out.1.trans (H9.out.2.2.2.below (fun g _ hg => by have := BW8.out.2; omega) BW8.out.1.size), H9.out.2.2.2.size⟩
   have h38 := BW8.out.2
   go_wp2_with fail
   refine (l5Num_any _ bs (w.heap.size + 1) at9 k9 w9 (H0.out.below BW9.out.1) hbs hn H9.out.1).mono ?_
   rintro e w10 ⟨rfl, cu10, hc10⟩
   obtain ⟨m, p10, k10, hm⟩ : ∃ m p10 k10, curN bs at9 k9 = (m, p10, k10) := ⟨_, _, _, rfl⟩
   rw [hm] at cu10 ⊢
   have HM : Hid _ := hm
   clear hm
   simp only at cu10
   have H10 : Hid _ := And.intro cu10 hc10
   obtain ⟨d0, d1, d2⟩ := cu10.cell
   have f5 := cu10.live
   clear cu10 hc10
   go_upto_region 23 with fail
   go_cut [] (fun wx => CurAt wx (w.heap.size + 1) (.slice av bs.length cv) p10 (k10 && inB m 0 6) ∧ Hid (Chg (fun g => g = w.heap.size + 1) w10 wx))
   case first =>
    as_aux_lemma =>
     have hin : ∀ u, Calls Try.prog 16 #[.int .i64 m, .int .i64 0, .int .i64 6] u fun e w' => e = .returned (.bool (inB m 0 6)) ∧ u = w' := fun u => (l1InN_any m 0 6 u).mono (fun e w' h => ⟨h.1, h.2.symm⟩)
     cases k10 with
     | false =>
      go_wp2_with fail
      go_meet
      case rel => exact ⟨H10.out.1.setOk false, (Chg.refl (fun g => g = w.heap.size + 1) w10).setAt (w.heap.size + 1) 2 rfl _⟩
     | true =>
      go_wp2_with (go_at_call 16; refine (hin _).mono ?_; rintro e w' ⟨rfl, rfl⟩)
      go_meet
      case rel => exact ⟨H10.out.1.setOk _, (Chg.refl (fun g => g = w.heap.size + 1) w10).setAt (w.heap.size + 1) 2 rfl _⟩
   case rest =>
   obtain ⟨cu11, C11⟩ := hcut
   have C11' : Chg (fun g => g = w.heap.size + 1) w9 wc := H10.out.2.trans C11.out (fun _ _ h => h)
   have bx11 := H9.out.2.1.chg C11' (by omega)
   have HKK : Hid (((k10 && inB m 0 6) = true → k9 = true ∧ k8 = true ∧ numsN bs at7 n.toNat = some (ks, at8) ∧ numsN bs at8 (n.toNat - 1) = some (cs, at9) ∧ countN bs at9 0 6 = some (m, p10)) ∧ ((k10 && inB m 0 6) = false → specRead bs = none)) := by
    rcases R9.out with ⟨h, hno⟩ | ⟨h, h8, hc⟩
    ·subst h
     have := curN_off HM.out
     subst this
     exact ⟨fun h => (by simp at h), fun _ => hno⟩
    ·subst h
     rcases R8.out with ⟨h', _⟩ | ⟨_, hk⟩
     ·rw [h8] at h'; cases h'
     ·have := FH.out.count hk hc HM.out
      exact ⟨fun h => ⟨rfl, h8, hk, hc, this.1 h⟩, this.2⟩
   generalize (k10 && inB m 0 6) = kk at *
   have H11 : Hid _ := And.intro cu11 (And.intro bx11 C11')
   clear d0 d1 d2 f5 cu11 C11 bx11 C11' H10 HM
   generalize wc = w11 at *
   have BW11 : Hid (Below w.heap.size w w11 ∧ w9.heap.size ≤ w11.heap.size) := ⟨BW9.out.1.trans (H11.out.2.2.below (fun g _ hg => by omega) BW9.out.1.size), H11.out.2.2.size⟩
   have h911 := BW11.out.2
   have h89 := BW9.out.2
   go_upto_block 6 with fail
   go_cut [] (fun wx => ∃ (at_ : Int) (k : Bool) (ms : List (Int × Int × Int)) (am : Option Addr) (qm : Nat), ms.length ≤ 6 ∧ CurAt wx (w.heap.size + 1) (.slice av bs.length cv) at_ k ∧ BoxIs wx w3.heap.size (.bool false) (.slice ap 0 qp) (.slice ac cs.length qc) (.slice at3 n.toNat q3) (.slice am ms.length qm) ∧ Hid (OwnE wx w11.heap.size 73 3 (.slice am ms.length qm) ms.length (flatM ms) ∧ Chg (fun g => g = w.heap.size + 1 ∨ g = w3.heap.size) w11 wx) ∧
    Hid ((k = false ∧ specRead bs = none) ∨ (k = true ∧ kk = true ∧ msgsN bs p10 m.toNat = some (ms, at_))))
   case first =>
    as_aux_lemma =>
     go_wp2_with fail
     go_loopw [14] (fun i wr => ∃ (j : Nat) (at_ : Int) (k : Bool) (ms : List (Int × Int × Int)) (am : Option Addr) (qm : Nat), i = .int .i64 j ∧ CurAt wr (w.heap.size + 1) (.slice av bs.length cv) at_ k ∧ BoxIs wr w3.heap.size (.bool false) (.slice ap 0 qp) (.slice ac cs.length qc) (.slice at3 n.toNat q3) (.slice am ms.length qm) ∧ Hid (OwnE wr w11.heap.size 73 3 (.slice am ms.length qm) ms.length (flatM ms) ∧ Chg (fun g => g = w.heap.size + 1 ∨ g = w3.heap.size) w11 wr) ∧ ((k = false ∧ ms.length ≤ 6 ∧ specRead bs = none) ∨ (k = true ∧ kk = true ∧ msgsN bs p10 j = some (ms, at_) ∧ (j : Int) ≤ m)))
      (fun i _ => m.toNat - (intOf i).toNat)
     case atStart =>
      refine ⟨0, p10, kk, [], none, 0, rfl, H11.out.1, H11.out.2.1, ⟨OwnE.nil _ _ _ _, Chg.refl _ _⟩, ?_⟩
      cases kk with
      | false => exact .inl ⟨rfl, by simp, HKK.out.2 rfl⟩
      | true => exact .inr ⟨rfl, rfl, rfl, by have := countN_in (HKK.out.1 rfl).2.2.2.2; omega⟩
     case round =>
      obtain ⟨j, at_, k, ms, am, qm, rfl, hcu, hbx, hO, hR⟩ := hrel
      obtain ⟨d0, d1, d2⟩ := hcu.cell
      have f2 := hcu.live
      have I : Hid _ := And.intro hcu (And.intro hbx hO.out)
      clear hcu hbx hO
      rcases hR with ⟨rfl, hl, hnone⟩ | ⟨rfl, rfl, hpn, hjm⟩
      ·have HQ : Hid _ := And.intro hl hnone
       clear hl hnone
       by_cases hlt : (j : Int) < m
       ·go_wp2_with fail
        go_meet
        case rel => exact ⟨at_, false, ms, am, qm, HQ.out.1, I.out.1, I.out.2.1, I.out.2.2, .inl ⟨rfl, HQ.out.2⟩⟩
       ·go_wp2_with fail
        go_meet
        case rel => exact ⟨at_, false, ms, am, qm, HQ.out.1, I.out.1, I.out.2.1, I.out.2.2, .inl ⟨rfl, HQ.out.2⟩⟩
      ·have HQ : Hid _ := hpn
       have hm6 : m ≤ 6 := (countN_in (HKK.out.1 rfl).2.2.2.2).2.1
       have hml : Hid (ms.length = j) := msgsN_length hpn
       have hms6 : ms.length ≤ 6 := by have := hml.out; omega
       clear hpn
       by_cases hlt : (j : Int) < m
       ·have hms5 : ms.length ≤ 5 := by have := hml.out; omega
        have BW : Below w.heap.size w wr := BW11.out.1.trans (I.out.2.2.2.below (fun g _ hg => by omega) BW11.out.1.size)
        have hwr : w11.heap.size ≤ wr.heap.size := I.out.2.2.2.size
        go_wp2_with fail
        refine (l5Num_any _ bs (w.heap.size + 1) at_ true wr (H0.out.below BW) hbs hn I.out.1).mono ?_
        rintro e w12 ⟨rfl, cu12, hc12⟩
        obtain ⟨x, q1, kx, hX⟩ : ∃ x q1 kx, curN bs at_ true = (x, q1, kx) := ⟨_, _, _, rfl⟩
        rw [hX] at cu12 ⊢
        have HX1 : Hid _ := hX
        clear hX
        simp only at cu12
        have b13 : Below w12.heap.size w12 (w12.alloc (.cells #[.int .i64 x, .int .i64 0, .int .i64 0] 73)) := bel_new _ _
        have n13 := heap_alloc_new w12 (.cells #[.int .i64 x, .int .i64 0, .int .i64 0] 73)
        have hs12 : wr.heap.size ≤ w12.heap.size := hc12.size
        clear d0 d1 d2 f2
        go_wp2_with fail
        generalize w12.alloc (.cells #[.int .i64 x, .int .i64 0, .int .i64 0] 73) = w13 at *
        have B13 : Below w.heap.size w w13 := BW.trans ((hc12.below (fun g _ hg => by omega) BW.size).trans (b13.mono (by omega)))
        have cu13 := cu12.below b13
        have C13 : Chg (fun g => g = w.heap.size + 1) wr w13 := hc12.trans (Chg.of_below (F := fun g => g = w.heap.size + 1) b13) (fun _ _ h => h)
        have hs13 : w12.heap.size ≤ w13.heap.size := b13.size
        have hl13 : w12.heap.size < w13.heap.size := (Array.getElem?_eq_some_iff.1 n13).1
        generalize w12.heap.size = G at *
        refine (l5Num_any _ bs (w.heap.size + 1) q1 kx w13 (H0.out.below B13) hbs hn cu13).mono ?_
        rintro e w14 ⟨rfl, cu14, hc14⟩
        obtain ⟨y, q2, ky, hY⟩ : ∃ y q2 ky, curN bs q1 kx = (y, q2, ky) := ⟨_, _, _, rfl⟩
        rw [hY] at cu14 ⊢
        have HY1 : Hid _ := hY
        clear hY
        simp only at cu14
        have n14 : w14.heap[G]? = some (Obj.cells #[.int .i64 x, .int .i64 0, .int .i64 0] 73 (0, 0)) := row_chg n13 hc14 (by omega)
        have g1 : w14.cell? ⟨G, 1, none⟩ = some (.int .i64 0) := by rw [cell_of_cells n14]; rfl
        have g2 : w14.frozen? ⟨G, 1, none⟩ = false := frozen_of_cells n14
        have n15 := heap_setCell_same w14 G 1 _ _ (.int .i64 y) n14
        have hG : Chg (fun g => g = G) w14 (w14.setCell ⟨G, 1, none⟩ (.int .i64 y)) := (Chg.refl (fun g => g = G) w14).setAt G 1 rfl (.int .i64 y)
        have C15 : Chg (fun g => g = w.heap.size + 1) wr (w14.setCell ⟨G, 1, none⟩ (.int .i64 y)) := (C13.trans hc14 (fun _ _ h => h)).trans hG (fun g hg e => by omega)
        have cu15 := cu14.chg hG (by omega)
        have B15 : Below w.heap.size w (w14.setCell ⟨G, 1, none⟩ (.int .i64 y)) := BW.trans (C15.below (fun g _ hg => by omega) BW.size)
        clear cu12 hc12 b13 n13 cu13 C13 cu14 hc14 n14 hG B13
        go_upto_region 29 with fail
        clear g1 g2
        generalize w14.setCell ⟨G, 1, none⟩ (.int .i64 y) = w15 at *
        have n15' : w15.heap[G]? = some (Obj.cells #[.int .i64 x, .int .i64 y, .int .i64 0] 73 (0, 0)) := by simpa using n15
        clear n15
        go_wp2_with fail
        refine (l5Num_any _ bs (w.heap.size + 1) q2 ky w15 (H0.out.below B15) hbs hn cu15).mono ?_
        rintro e w16 ⟨rfl, cu16, hc16⟩
        obtain ⟨z, q3', kz, hZ⟩ : ∃ z q3' kz, curN bs q2 ky = (z, q3', kz) := ⟨_, _, _, rfl⟩
        rw [hZ] at cu16 ⊢
        have HZ1 : Hid _ := hZ
        clear hZ
        simp only at cu16
        have n16 : w16.heap[G]? = some (Obj.cells #[.int .i64 x, .int .i64 y, .int .i64 0] 73 (0, 0)) := row_chg n15' hc16 (by omega)
        have g1 : w16.cell? ⟨G, 2, none⟩ = some (.int .i64 0) := by rw [cell_of_cells n16]; rfl
        have g2 : w16.frozen? ⟨G, 2, none⟩ = false := frozen_of_cells n16
        have n17 := heap_setCell_same w16 G 2 _ _ (.int .i64 z) n16
        have hG : Chg (fun g => g = G) w16 (w16.setCell ⟨G, 2, none⟩ (.int .i64 z)) := (Chg.refl (fun g => g = G) w16).setAt G 2 rfl (.int .i64 z)
        have C17 : Chg (fun g => g = w.heap.size + 1) wr (w16.setCell ⟨G, 2, none⟩ (.int .i64 z)) := (C15.trans hc16 (fun _ _ h => h)).trans hG (fun g hg e => by omega)
        have cu17 := cu16.chg hG (by omega)
        clear cu15 C15 B15 n15' cu16 hc16 n16 hG
        go_upto_region 30 with fail
        clear g1 g2
        generalize w16.setCell ⟨G, 2, none⟩ (.int .i64 z) = w17 at *
        have n17' : w17.heap[G]? = some (Obj.cells #[.int .i64 x, .int .i64 y, .int .i64 z] 73 (0, 0)) := by simpa using n17
        have t17 := I.out.2.1.chg C17 (by omega)
        have o17 := I.out.2.2.1.chg C17 (fun g hg e => by have := (I.out.2.2.1.lt g hg).1; omega)
        obtain ⟨e0, e1, e2, e3, e4⟩ := t17.cell
        have m0 : w17.cell? ⟨G, 0, none⟩ = some (.int .i64 x) := by rw [cell_of_cells n17']; rfl
        have m1 : w17.cell? ⟨G, 1, none⟩ = some (.int .i64 y) := by rw [cell_of_cells n17']; rfl
        have m2 : w17.cell? ⟨G, 2, none⟩ = some (.int .i64 z) := by rw [cell_of_cells n17']; rfl
        have C17' : Chg (fun g => g = w.heap.size + 1 ∨ g = w3.heap.size) w11 w17 := I.out.2.2.2.trans C17 (fun _ _ h => .inl h)
        have hs17 : w11.heap.size ≤ w17.heap.size := C17'.size
        have J : Hid _ := And.intro cu17 (And.intro t17 (And.intro o17 C17'))
        have HRm : Hid _ := roomM (n := ms.length) (m := 1) (by omega)
        have hbase : w11.heap.size ≤ (w17.alloc (.cells #[.int .i64 x, .int .i64 y, .int .i64 z] 73)).heap.size := by simp; omega
        clear cu17 t17 o17 C17 C17' n17 n17'
        go_wp2_with (at_builtin; refine list_appE (w17.alloc (.cells #[.int .i64 x, .int .i64 y, .int .i64 z] 73)) rfl _ _ 52 rfl w11.heap.size 73 g0 _ 3 24 Try.underlying52 hg hg0 hg1 hg2 rfl (by decide) (.slice am ms.length qm) ms.length (flatM ms) rfl (J.out.2.2.1.below (bel_new _ _)) (.slice (some ⟨w17.heap.size, 0, none⟩) 1 1) 1 (flatM [(x, y, z)]) rfl (Row.laid w17 (flatM [(x, y, z)]) 73 _ rfl) rfl (flatM_oneC _) HRm.out.1 HRm.out.2 hbase ?_)
        intro v18 w18 A18
        obtain ⟨o18, c18, _, _⟩ := A18
        have hlo : ∀ g, wrB (.slice am ms.length qm) g → w11.heap.size ≤ g := fun g hg => (J.out.2.2.1.lt g hg).1
        have ca : Chg (fun _ => False) w17 (w17.alloc (.cells #[.int .i64 x, .int .i64 y, .int .i64 z] 73)) := Chg.of_below (bel_new _ _)
        have t18 := (J.out.2.1.chg ca id).chg c18 (fun e => by have := hlo _ e; omega)
        have cu18 := (J.out.1.chg ca id).chg c18 (fun e => by have := hlo _ e; omega)
        have C18 : Chg (fun g => g = w.heap.size + 1 ∨ g = w3.heap.size) w11 w18 := ((J.out.2.2.2).alloc _).trans c18 (fun g hg e => by have := hlo g e; omega)
        obtain ⟨a18, q18, hv18⟩ := o18.slice
        subst hv18
        have o18' : OwnE w18 w11.heap.size 73 3 (.slice a18 (ms.length + 1) q18) (ms ++ [(x, y, z)]).length (flatM (ms ++ [(x, y, z)])) := by rw [flatM_append]; simpa using o18
        obtain ⟨r0, r1, r2, r3, r4⟩ := t18.cell
        have fr := t18.live
        have hcs : Chg (fun g => g = w3.heap.size) w18 (w18.setCell ⟨w3.heap.size, 4, none⟩ (.slice a18 (ms.length + 1) q18)) := (Chg.refl (fun g => g = w3.heap.size) w18).setAt w3.heap.size 4 rfl _
        have bxs : BoxIs (w18.setCell ⟨w3.heap.size, 4, none⟩ (.slice a18 (ms.length + 1) q18)) w3.heap.size (.bool false) (.slice ap 0 qp) (.slice ac cs.length qc) (.slice at3 n.toNat q3) (.slice a18 (ms.length + 1) q18) := by
         have := heap_setCell_same w18 w3.heap.size 4 _ _ (.slice a18 (ms.length + 1) q18) t18
         unfold BoxIs
         simpa using this
        have FIN : Hid (CurAt (w18.setCell ⟨w3.heap.size, 4, none⟩ (.slice a18 (ms.length + 1) q18)) (w.heap.size + 1) (.slice av bs.length cv) q3' kz ∧ BoxIs (w18.setCell ⟨w3.heap.size, 4, none⟩ (.slice a18 (ms.length + 1) q18)) w3.heap.size (.bool false) (.slice ap 0 qp) (.slice ac cs.length qc) (.slice at3 n.toNat q3) (.slice a18 (ms ++ [(x, y, z)]).length q18) ∧ OwnE (w18.setCell ⟨w3.heap.size, 4, none⟩ (.slice a18 (ms.length + 1) q18)) w11.heap.size 73 3 (.slice a18 (ms ++ [(x, y, z)]).length q18) (ms ++ [(x, y, z)]).length (flatM (ms ++ [(x, y, z)])) ∧ Chg (fun g => g = w.heap.size + 1 ∨ g = w3.heap.size) w11 (w18.setCell ⟨w3.heap.size, 4, none⟩ (.slice a18 (ms.length + 1) q18))) :=
         ⟨cu18.chg hcs (by omega), by simpa using bxs, by simpa using o18'.chg hcs (fun g hg e => by have := (o18'.lt g hg).1; omega), C18.trans hcs (fun _ _ h => .inr h)⟩
        have HS : Hid _ := msg_step HQ.out HX1.out HY1.out HZ1.out
        clear o18 c18 hlo ca t18 cu18 C18 o18' hcs bxs J e0 e1 e2 e3 e4 m0 m1 m2 HX1 HY1 HZ1
        go_wp2
        go_roundw
        case rel =>
         refine ⟨j + 1, q3', kz, ms ++ [(x, y, z)], a18, q18, by go_num, FIN.out.1, FIN.out.2.1, FIN.out.2.2, ?_⟩
         cases kz with
         | false =>
          obtain ⟨_, _, hk, hc, hm⟩ := HKK.out.1 (by trivial)
          refine .inl ⟨rfl, by simp; omega, ?_⟩
          rw [FH.out.done hk hc hm, msgsN_none (HS.out.2 rfl) m.toNat (by omega)]
         | true => exact .inr ⟨rfl, by trivial, HS.out.1 rfl, by omega⟩
        case measure => simp [intOf]; omega
       ·have hjm' : j = m.toNat := by omega
        go_wp2_with fail
        go_meet
        case rel => exact ⟨at_, true, ms, am, qm, hms6, I.out.1, I.out.2.1, I.out.2.2, .inr ⟨rfl, by trivial, by rw [← hjm']; exact HQ.out⟩⟩
   case rest =>
   obtain ⟨at12, k12, ms, am, qm, hm6, cu12, bx12, O12, R12⟩ := hcut
   generalize wc = w12 at *
   have FIN : Hid (∃ (x : TV) (T : Tr), BoxIs w12 w3.heap.size (.bool x.lf) x.p x.c x.k x.b ∧ (∀ u, Chg (fun g => g = w.heap.size) w12 u → (TreeAt 2 u x T ∧ Row u (.slice ak ks.length qk) ks.length (flatI ks)) ∧ NodeOwnS (w.heap.size + 1) u x (.slice ak ks.length qk) T ks) ∧ (T.pairs.length ≤ 10 ∧ T.cuts.length ≤ 10 ∧ T.kids.length ≤ 10 ∧ T.buf.length ≤ 10 ∧ ks.length ≤ 10) ∧ Chg (fun g => g = w.heap.size + 1 ∨ g = w3.heap.size) w7 w12 ∧ ((k12 = false ∧ specRead bs = none) ∨ (k12 = true ∧ ∃ nv, specRead bs = some (nv, at12) ∧ T = treeV nv ∧ ks = kidsV nv))) := by
    have h37 := BW7.out.2
    have h78 : w7.heap.size ≤ w8.heap.size := H8.out.2.2.2.2.size
    have c911 : Chg (fun g => g = w.heap.size + 1 ∨ g = w3.heap.size) w9 w11 := H11.out.2.2.mono (fun _ _ h => .inl h)
    have c912 : Chg (fun g => g = w.heap.size + 1 ∨ g = w3.heap.size) w9 w12 := c911.trans O12.out.2 (fun _ _ h => h)
    have c812 : Chg (fun g => g = w.heap.size + 1 ∨ g = w3.heap.size) w8 w12 := H9.out.2.2.2.trans c912 (fun _ _ h => h)
    have oc : OwnE w12 w8.heap.size 3 1 (.slice ac cs.length qc) cs.length (flatI cs) := H9.out.2.2.1.chg c912 (fun g hg e => by have := (H9.out.2.2.1.lt g hg).1; omega)
    have okd : OwnE w12 w7.heap.size 3 1 (.slice ak ks.length qk) ks.length (flatI ks) := H8.out.2.2.1.chg c812 (fun g hg e => by have := (H8.out.2.2.1.lt g hg).1; omega)
    have otr := H8.out.2.2.2.1.chg c812 (fun g hg e => by have := (H8.out.2.2.2.1.lt g hg).1; omega)
    have rp : ∀ u, Row u (.slice ap 0 qp) 0 [] := fun u => by
     obtain ⟨a, b, off, cap, h1, h2, h3, h4, h5, h6⟩ := H7.out.2.2.1.row'
     exact ⟨a, b, off, cap, h1, h2, h3, h4, fun j u hj => by simp at hj, h6⟩
    have rn : ∀ u, Row u (.slice none 0 0) 0 [] := fun u => ⟨none, 0, 0, 0, rfl, Nat.le_refl _, Nat.zero_le _, fun h => absurd h (Nat.lt_irrefl _), fun j u hj => by simp at hj, fun _ => rfl⟩
    have zt : ∀ u, TreeAt 1 u ⟨false, .slice none 0 0, .slice none 0 0, .slice none 0 0, .slice none 0 0⟩ ⟨false, [], [], [], []⟩ := fun u => TreeAt.mk rfl (rn u) (rn u) (rn u) ⟨[], rfl, rn u, fun i hi => absurd hi (Nat.not_lt_zero _)⟩
    have c712 : Chg (fun g => g = w.heap.size + 1 ∨ g = w3.heap.size) w7 w12 := H8.out.2.2.2.2.trans c812 (fun _ _ h => h)
    have op7 : OwnE w12 w6.heap.size 76 2 (.slice ap 0 qp) 0 [] := H7.out.2.2.1.chg c712 (fun g hg e => by have := (H7.out.2.2.1.lt g hg).1; omega)
    have op : ∀ u, Chg (fun g => g = w.heap.size) w12 u → OwnE u (w.heap.size + 1) 76 2 (.slice ap 0 qp) 0 [] := fun u hu => (op7.chg hu (fun g hg e => by have := (op7.lt g hg).1; omega)).mono (by omega)
    refine ⟨⟨false, .slice ap 0 qp, .slice ac cs.length qc, .slice at3 n.toNat q3, .slice am ms.length qm⟩, ⟨false, [], cs, List.replicate n.toNat ⟨false, [], [], [], []⟩, ms⟩, bx12, fun u hu => ⟨⟨TreeAt.mk rfl (rp u) (oc.chg hu (fun g hg e => by have := (oc.lt g hg).1; omega)).row' (O12.out.1.chg hu (fun g hg e => by have := (O12.out.1.lt g hg).1; omega)).row' ⟨List.replicate n.toNat ⟨false, .slice none 0 0, .slice none 0 0, .slice none 0 0, .slice none 0 0⟩, by simp, ?_, ?_⟩, (okd.chg hu (fun g hg e => by have := (okd.lt g hg).1; omega)).row'⟩, ⟨op u hu, (oc.chg hu (fun g hg e => by have := (oc.lt g hg).1; omega)).mono (by omega), ?_, (O12.out.1.chg hu (fun g hg e => by have := (O12.out.1.lt g hg).1; omega)).mono (by omega), (okd.chg hu (fun g hg e => by have := (okd.lt g hg).1; omega)).mono (by omega)⟩⟩, ⟨by simp, by simp; omega, by simp; omega, by simp; omega, by omega⟩, H8.out.2.2.2.2.trans c812 (fun _ _ h => h), ?_⟩
    ·rw [List.length_replicate]; exact (otr.chg hu (fun g hg e => by have := (otr.lt g hg).1; omega)).row'
    ·intro i hi
     rw [List.length_replicate] at hi
     have e1 : tvAt (List.replicate n.toNat (⟨false, .slice none 0 0, .slice none 0 0, .slice none 0 0, .slice none 0 0⟩ : TV)) i = ⟨false, .slice none 0 0, .slice none 0 0, .slice none 0 0, .slice none 0 0⟩ := by simp [tvAt, List.getD, hi]
     have e2 : (List.replicate n.toNat (⟨false, [], [], [], []⟩ : Tr)).getD i noTr = ⟨false, [], [], [], []⟩ := by simp [List.getD, hi]
     rw [e1, e2]
     exact zt u
    ·simp only [List.length_replicate]
     exact (otr.chg hu (fun g hg e => by have := (otr.lt g hg).1; omega)).mono (by omega)
    ·rcases R12.out with h | ⟨h, hkk, hms⟩
     ·exact .inl h
     ·obtain ⟨_, _, hk, hc, hm⟩ := HKK.out.1 hkk
      refine .inr ⟨h, .inr ⟨ks, cs, ms⟩, ?_, ?_, rfl⟩
      ·rw [FH.out.done hk hc hm, hms]
      ·simp only [treeV]; rw [HKL.out]
   have CU : Hid _ := cu12
   clear bx12 O12 R12 cu12
   go_wp2_with fail
   go_meet
   case rel =>
    obtain ⟨x, T, h1, h2, h4, h5, h6⟩ := FIN.out
    exact ⟨at12, k12, x, T, ks, ak, qk, rfl, CU.out, h1, h2, h4, h5, h6⟩
 case rest =>
 obtain ⟨at13, k13, x, T, ks, ak, qk, rfl, cu13, bx13, TT, hbnd, C13, R13⟩ := hcut
 generalize wc = w13 at *
 have z13 : w13.heap[w.heap.size]? = some (Obj.cells #[.bool false, .slice none 0 0, .slice none 0 0, .slice none 0 0, .slice none 0 0] 54 (0, 0)) := row_chg (row_chg (row_chg H2.out.2.2 H6.out.2.2 (by omega)) H7.out.2.2.2 (by omega)) C13.out (by omega)
 have B13 : Below w.heap.size w w13 := H2.out.2.1.trans ((H6.out.2.2.below (fun g _ hg => by omega) H2.out.2.1.size).trans ((H7.out.2.2.2.below (fun g _ hg => by omega) (by omega)).trans (C13.out.below (fun g _ hg => by omega) (by have := H7.out.2.2.2.size; omega))))
 obtain ⟨a1, a2, a3, a4, y1, y2, y3, y4, hxe⟩ := (TT.out w13 (Chg.refl _ _)).1.1.shape
 subst hxe
 obtain ⟨e0', e1', e2', e3', e4'⟩ := bx13.cell
 obtain ⟨hb1, hb2, hb3, hb4, hb5⟩ := hbnd
 have PN : Hid _ := specPutNode_any 2 _ T (.slice ak ks.length qk) ks w13 (TT.out w13 (Chg.refl _ _)).1.1 (TT.out w13 (Chg.refl _ _)).1.2 (by omega) (by omega) (by omega) (by omega) (by omega)
 have I13 : Hid _ := And.intro cu13 (And.intro bx13 (And.intro z13 B13))
 clear cu13 bx13 z13 B13 d0 d1 d2 f7 e0 e1 e2 e3 e4 f8 hb1 hb2 hb3 hb4 hb5 HC R7
 simp only at e0' e1' e2' e3' e4'
 go_wp2_with fail
 refine Calls.mono PN.out ?_
 rintro e w14 ⟨hpost, b14⟩
 obtain ⟨okp, b2, v', he, oB, hy, hno⟩ : ∃ (okp : Bool) (b2 : List Int) (v' : Value), e = .returned (.tuple #[v', .bool okp]) ∧ OwnB w13.heap.size w14 v' b2 ∧ (okp = true → putNodeF T ks = some b2) ∧ (okp = false → putNodeF T ks = none) := by
  obtain ⟨v', hv'⟩ := hpost
  cases hp : putNodeF T ks with
  | none => rw [hp] at hv'; exact ⟨false, [], v', hv'.1, hv'.2, fun h => (by cases h), fun _ => rfl⟩
  | some b2 => rw [hp] at hv'; exact ⟨true, b2, v', hv'.1, hv'.2, fun _ => rfl, fun h => (by cases h)⟩
 subst he
 obtain ⟨a5, q5, hv5, _, _⟩ := owns_shape oB
 subst hv5
 have hb2 : okp = true → inByte b2 := fun h => by
  have := hy h
  unfold putNodeF at this
  split at this
  ·simp only [Option.some.injEq] at this; rw [← this]; exact formsB_byte _
  ·cases this
 have cu14 := I13.out.1.below b14
 obtain ⟨d0, d1, d2⟩ := cu14.cell
 have cv1 := conv_own2 oB
 have cv2 := conv_row (H0.out.below (Below.and I13.out.2.2.2 b14))
 have SB : Hid (okp = true → ((strOfNums b2).toList == (strOfNums bs).toList) = decide (b2 = bs)) := fun h => by
  by_cases hq : b2 = bs
  ·rw [decide_eq_true hq, hq]; simp
  ·rw [decide_eq_false hq, Lib.bytes_beq_false_iff]
   exact fun he => hq (strOfNums_inj (hb2 h) hbs he)
 have MATH : Hid (((!k13 || (at13 != (bs.length : Int)) || !okp || !(decide (b2 = bs))) = true → getNodeF bs = none) ∧ ((!k13 || (at13 != (bs.length : Int)) || !okp || !(decide (b2 = bs))) = false → ∃ nv, getNodeF bs = some nv ∧ T = treeV nv ∧ ks = kidsV nv)) := by
  rcases R13.out with ⟨hk, hr⟩ | ⟨hk, nv, hr, hT, hks⟩
  ·subst hk
   exact ⟨fun _ => getNodeF_none hr, fun h => (by simp at h)⟩
  ·subst hk
   subst hT
   subst hks
   refine ⟨fun hbad => getNodeF_no hbs hr (fun ht => ?_), fun hgood => ⟨nv, getNodeF_yes (q := at13) ?_, rfl, rfl⟩⟩
   ·obtain ⟨t1, t2, t3, t4⟩ := ht
    have hp := (putNodeF_V nv).1 ⟨t2, t3⟩
    rw [t4] at hp
    have ho : okp = true := by
     cases okp with
     | true => rfl
     | false => rw [hno rfl] at hp; cases hp
    have hbb : b2 = bs := by
     have := hy ho
     rw [hp] at this
     simp only [Option.some.injEq] at this
     exact this.symm
    rw [ho, hbb, t1] at hbad
    simp at hbad
   ·simp only [Bool.not_true, Bool.false_or, Bool.or_eq_false_iff, bne_eq_false_iff_eq, Bool.not_eq_false', decide_eq_true_eq] at hgood
    obtain ⟨⟨g1, g2⟩, g3⟩ := hgood
    have hp := hy g2
    rw [g3] at hp
    by_cases hv : okV nv ∧ okNums (numsV nv)
    ·have h2 := (putNodeF_V nv).1 hv
     rw [hp] at h2
     simp only [Option.some.injEq] at h2
     exact ⟨g1, hv.1, hv.2, h2.symm⟩
    ·have h2 := (putNodeF_V nv).2 hv
     rw [hp] at h2
     cases h2
 have I14 : Hid (BoxIs w14 w3.heap.size (.bool T.leaf) (.slice a1 T.pairs.length y1) (.slice a2 T.cuts.length y2) (.slice a3 T.kids.length y3) (.slice a4 T.buf.length y4) ∧ w14.heap[w.heap.size]? = some (Obj.cells #[.bool false, .slice none 0 0, .slice none 0 0, .slice none 0 0, .slice none 0 0] 54 (0, 0)) ∧ Below w.heap.size w w14 ∧ Chg (fun g => g = w.heap.size) w13 w14) := ⟨I13.out.2.1.chg (Chg.of_below (F := fun _ => False) b14) id, row_chg I13.out.2.2.1 (Chg.of_below (F := fun _ => False) b14) id, Below.and I13.out.2.2.2 b14, Chg.of_below b14⟩
 clear hpost b14 oB hy hno hb2 cu14 PN I13 R13 e0' e1' e2' e3' e4'
 go_upto_region 32 with fail
 go_cut [172] (fun s172 wx => s172 = .bool (!k13 || (at13 != (bs.length : Int)) || !okp || !(decide (b2 = bs))) ∧ w14 = wx)
 case first =>
  as_aux_lemma =>
   have hnot : ∀ (x : Bool) (w : World), (Op.unary .not (.bool x)).run Try.prog w = .ok (.bool (!x)) w := fun _ _ => rfl
   have hcv := Nat.le_trans (H0.out.len).choose_spec.choose_spec.2 (Nat.le_refl _)
   cases k13 with
   | false =>
    go_wp2_with fail
    go_meet
    case rel => exact ⟨by simp, rfl⟩
   | true =>
    by_cases hat : at13 = (bs.length : Int)
    ·have hat' : (at13 != (bs.length : Int)) = false := by rw [bne_eq_false_iff_eq]; exact hat
     cases okp with
     | false =>
      go_wp2_with fail
      go_meet
      case rel => exact ⟨by simp, rfl⟩
     | true =>
      have hq := SB.out rfl
      have HAT : Hid _ := hat'
      generalize decide (b2 = bs) = dq at *
      cases dq with
      | false =>
       go_wp2_with fail
       go_meet
       case rel => exact ⟨by simp, rfl⟩
      | true =>
       go_wp2_with fail
       go_meet
       case rel => exact ⟨by rw [HAT.out]; simp, rfl⟩
    ·have hat' : (at13 != (bs.length : Int)) = true := by rw [bne_iff_ne]; exact hat
     go_wp2_with fail
     go_meet
     case rel => exact ⟨by rw [hat']; simp, rfl⟩
 case rest =>
 obtain ⟨rfl, rfl⟩ := hcut
 obtain ⟨bad, hbad⟩ : ∃ c, (!k13 || (at13 != (bs.length : Int)) || !okp || !(decide (b2 = bs))) = c := ⟨_, rfl⟩
 rw [hbad] at MATH ⊢
 clear hbad SB cv1 cv2
 obtain ⟨i0', i1', i2', i3', i4'⟩ := I14.out.1.cell
 have zz := I14.out.2.1
 have k0 : ∀ j, w14.cell? ⟨w.heap.size, j, none⟩ = #[Value.bool false, .slice none 0 0, .slice none 0 0, .slice none 0 0, .slice none 0 0][j]? := fun j => cell_of_cells zz
 have k1 : ∀ j, w14.frozen? ⟨w.heap.size, j, none⟩ = false := fun j => frozen_of_cells zz
 have hl1 : w.heap.size < w14.heap.size := (Array.getElem?_eq_some_iff.1 zz).1
 have hl2 : ¬ w.heap.size = w14.heap.size := by omega
 have hl3 : ¬ w14.heap.size = w.heap.size := by omega
 clear zz
 cases bad with
 | true =>
  go_wp2
  have hS5 := sef5_at (.bool false) (.slice none 0 0) (.slice none 0 0) (.slice none 0 0) (.slice none 0 0) I14.out.2.1
  have hC5 := sef5_chg w14 w.heap.size (.bool false) (.slice none 0 0) (.slice none 0 0) (.slice none 0 0) (.slice none 0 0)
  unfold sef5 at hS5 hC5
  have hS6 := row_chg hS5 (Chg.of_below (F := fun _ => False) (bel_new _ (.cells #[] 3))) id
  have hB6 := (I14.out.2.2.1.trans (hC5.below (fun g _ hg => by omega) I14.out.2.2.1.size))
  have hB7 := Below.and hB6 (bel_new _ (.cells #[] 3))
  generalize ((((((w14.setCell ⟨w.heap.size, 0, none⟩ (.bool false)).setCell ⟨w.heap.size, 1, none⟩ (.slice none 0 0)).setCell ⟨w.heap.size, 2, none⟩ (.slice none 0 0)).setCell ⟨w.heap.size, 3, none⟩ (.slice none 0 0)).setCell ⟨w.heap.size, 4, none⟩ (.slice none 0 0)).alloc (.cells #[] 3)) = WF at *
  have kk : ∀ j, WF.cell? ⟨w.heap.size, j, none⟩ = #[Value.bool false, .slice none 0 0, .slice none 0 0, .slice none 0 0, .slice none 0 0][j]? := fun j => cell_of_cells hS6
  refine bodyPost_ret (v := .tuple #[.agg #[.bool false, .slice none 0 0, .slice none 0 0, .slice none 0 0, .slice none 0 0], .slice (some ⟨w14.heap.size, 0, none⟩) 0 0, .bool false]) (by simp [results, Try.results47, go_sem, kk]) rfl ⟨?_, hB7⟩
  rw [MATH.out.1 (by trivial)]
  exact ⟨_, rfl⟩
 | false =>
  go_wp2
  have hS5 := sef5_at (.bool T.leaf) (.slice a1 T.pairs.length y1) (.slice a2 T.cuts.length y2) (.slice a3 T.kids.length y3) (.slice a4 T.buf.length y4) I14.out.2.1
  have hC5 := sef5_chg w14 w.heap.size (.bool T.leaf) (.slice a1 T.pairs.length y1) (.slice a2 T.cuts.length y2) (.slice a3 T.kids.length y3) (.slice a4 T.buf.length y4)
  unfold sef5 at hS5 hC5
  have hB6 := (I14.out.2.2.1.trans (hC5.below (fun g _ hg => by omega) I14.out.2.2.1.size))
  generalize (((((w14.setCell ⟨w.heap.size, 0, none⟩ (.bool T.leaf)).setCell ⟨w.heap.size, 1, none⟩ (.slice a1 T.pairs.length y1)).setCell ⟨w.heap.size, 2, none⟩ (.slice a2 T.cuts.length y2)).setCell ⟨w.heap.size, 3, none⟩ (.slice a3 T.kids.length y3)).setCell ⟨w.heap.size, 4, none⟩ (.slice a4 T.buf.length y4)) = WF at *
  have kk : ∀ j, WF.cell? ⟨w.heap.size, j, none⟩ = #[Value.bool T.leaf, .slice a1 T.pairs.length y1, .slice a2 T.cuts.length y2, .slice a3 T.kids.length y3, .slice a4 T.buf.length y4][j]? := fun j => cell_of_cells hS5
  refine bodyPost_ret (v := .tuple #[.agg #[.bool T.leaf, .slice a1 T.pairs.length y1, .slice a2 T.cuts.length y2, .slice a3 T.kids.length y3, .slice a4 T.buf.length y4], .slice ak ks.length qk, .bool true]) (by simp [results, Try.results47, go_sem, kk]) rfl ⟨?_, hB6⟩
  obtain ⟨nv, hg, hT, hks⟩ := MATH.out.2 (by trivial)
  rw [hg]
  have := TT.out WF (I14.out.2.2.2.trans hC5 (fun _ _ h => h))
  refine ⟨⟨T.leaf, .slice a1 T.pairs.length y1, .slice a2 T.cuts.length y2, .slice a3 T.kids.length y3, .slice a4 T.buf.length y4⟩, _, rfl, ⟨?_, ?_⟩, ?_⟩
  ·rw [← hT]; exact this.1.1
  ·rw [← hks]; exact this.1.2
  ·rw [← hT, ← hks]; exact this.2
end
end Go.Proofs.Ytekcnibohikmdaa
