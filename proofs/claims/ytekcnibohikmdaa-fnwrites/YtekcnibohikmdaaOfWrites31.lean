/-
  The contract of the model's l4Give, at a fork.
-/
import Derived.Test.YtekcnibohikmdaaOfWrites30
namespace Go.Proofs.Ytekcnibohikmdaa
set_option maxRecDepth 100000
set_option maxHeartbeats 8000000
section
open Go.RowKit

def lenV : Value → Nat
 | .slice _ n _ => n
 | _ => 0
theorem loopM_stop (g : Tr → ML → TM) (f : Nat) (m : TM) (b : ML) (h : ¬ 6 < b.length) : loopM g f m b = (m, b) := by
 cases f with
 | zero => rfl
 | succ f => rw [loopM, if_neg h]
theorem loopM_go (g : Tr → ML → TM) (f : Nat) (m : TM) (b : ML) (h : 6 < b.length) (hf : b.length ≤ f) : loopM g f m b = loopM g (f - 1) (putM m (mostTo m.2 b m.1.length).1 (g (m.1.getD (mostTo m.2 b m.1.length).1 noTr) (mineF m.2 (mostTo m.2 b m.1.length).1 b))) (restF m.2 (mostTo m.2 b m.1.length).1 b) := by
 cases f with
 | zero => omega
 | succ f => rw [loopM, if_pos h, Nat.add_sub_cancel]

theorem give_fork {d : Nat} (H : GiveIs d) (HD : DownIs d) (F : Nat → Prop) (x : TV) (T : Tr) (vm : Value) (ms : ML) (w : World) (ht : TreeF (d + 1) w F x T) (hm : Row w vm ms.length (flatM ms)) (hl : T.leaf = false) (hmo : MOk d (T.kids, T.cuts)) (h2 : 2 ≤ T.kids.length) (hn : wtL d T.kids + T.buf.length + ms.length ≤ 1000000) :
  Calls Try.prog 50 #[x.val, vm] w fun e w' => ∃ v1 v2, e = .returned (.agg #[v1, v2]) ∧ TreesF (d + 1) w' (fun b => F b ∨ w.heap.size ≤ b) v1 (endM (giveM d) (loopM (giveM d) (shrinkF (T.buf ++ ms)).length (T.kids, T.cuts) (shrinkF (T.buf ++ ms)))).1 ∧ RowF w' (fun b => F b ∨ w.heap.size ≤ b) v2 (endM (giveM d) (loopM (giveM d) (shrinkF (T.buf ++ ms)).length (T.kids, T.cuts) (shrinkF (T.buf ++ ms)))).2.length (flatI (endM (giveM d) (loopM (giveM d) (shrinkF (T.buf ++ ms)).length (T.kids, T.cuts) (shrinkF (T.buf ++ ms)))).2) ∧ Below w.heap.size w w' := by
 obtain ⟨i1, hi1, hw0, hw1, hw2⟩ := info_parts Try.info73
 obtain ⟨_, _, hcu, hbu, hki⟩ := ht.parts
 obtain ⟨a1, a2, a3, a4, q1, q2, q3, q4, hx⟩ := ht.treeAt.shape
 subst hx
 simp only at hcu hbu hki
 rw [hl] at *
 have TK := hid (hki.lt)
 have TC := hid (hcu.lt (flatI_ne _).2)
 have RB := hid (hbu.row)
 have RM := hid (hm)
 obtain ⟨am, qm, hvm, _⟩ := hm.len
 subst hvm
 have hsl := shrinkF_length (T.buf ++ ms)
 rw [List.length_append] at hsl
 have HS := hid (fun v w1 (hr : Row w1 v (T.buf ++ ms).length (flatM (T.buf ++ ms))) => specShrink_any v (T.buf ++ ms) w1 hr (by rw [List.length_append]; omega))
 have hwk : wtL d T.kids + (shrinkF (T.buf ++ ms)).length ≤ 1000000 := by omega
 have LFL : Hid ((flatM T.buf).length = T.buf.length * 3 ∧ (flatM ms).length = ms.length * 3) := ⟨flatM_length _, flatM_length _⟩
 have Z1 : Hid (0 + T.buf.length ≤ maxLen ∧ (0 + T.buf.length) * 24 ≤ 140737488355328) := ⟨by unfold maxLen; omega, by omega⟩
 have Z2 : Hid (T.buf.length + ms.length ≤ maxLen ∧ (T.buf.length + ms.length) * 24 ≤ 140737488355328) := ⟨by unfold maxLen; omega, by omega⟩
 have FA : Hid ((T.buf ++ ms).length = T.buf.length + ms.length ∧ flatM (T.buf ++ ms) = flatM T.buf ++ flatM ms) := ⟨by simp, by rw [flatM_append]⟩
 have R0 : Hid (loopM (giveM d) (shrinkF (T.buf ++ ms)).length (T.kids, T.cuts) (shrinkF (T.buf ++ ms)) = loopM (giveM d) (shrinkF (T.buf ++ ms)).length (T.kids, T.cuts) (shrinkF (T.buf ++ ms))) := rfl
 have MO := hid (hmo)
 have O1 : Hid (∀ y ∈ flatM T.buf, y.oneCell' = true) := flatM_one _
 have O2 : Hid (∀ y ∈ flatM ms, y.oneCell' = true) := flatM_one _
 clear ht hcu hbu hki hm hmo hn hsl
 generalize hR : loopM (giveM d) (shrinkF (T.buf ++ ms)).length (T.kids, T.cuts) (shrinkF (T.buf ++ ms)) = R at *
 have RR : Hid (loopM (giveM d) (shrinkF (T.buf ++ ms)).length (T.kids, T.cuts) (shrinkF (T.buf ++ ms)) = R) := hR
 clear hR R0
 generalize shrinkF (T.buf ++ ms) = SB at *
 generalize hcc : T.cuts = CC at *
 generalize hkk : T.kids = KK at *
 generalize flatM (T.buf ++ ms) = fa at *
 generalize flatM T.buf = fb at *
 generalize flatM ms = fm at *
 generalize (T.buf ++ ms).length = nb at *
 generalize T.buf.length = n4 at *
 generalize ms.length = nm at *
 generalize T.pairs.length = n1 at *
 generalize hn2 : CC.length = n2 at *
 generalize hn3 : KK.length = n3 at *
 have B0 : Hid (Below w.heap.size w (((w.alloc (.cells #[.bool false, .slice a1 n1 q1, .slice a2 n2 q2, .slice a3 n3 q3, .slice a4 n4 q4] 54)).alloc (.cells #[.slice none 0 0, .slice none 0 0] 95)).alloc (.cells #[] 73))) := al3 _ _ _ _
 have S0 : Hid (OneAt (((w.alloc (.cells #[.bool false, .slice a1 n1 q1, .slice a2 n2 q2, .slice a3 n3 q3, .slice a4 n4 q4] 54)).alloc (.cells #[.slice none 0 0, .slice none 0 0] 95)).alloc (.cells #[] 73)) w.heap.size #[.bool false, .slice a1 n1 q1, .slice a2 n2 q2, .slice a3 n3 q3, .slice a4 n4 q4]) := (OneAt.start w _).step (al2 _ _ _)
 have X1 : Hid (BoxM (((w.alloc (.cells #[.bool false, .slice a1 n1 q1, .slice a2 n2 q2, .slice a3 n3 q3, .slice a4 n4 q4] 54)).alloc (.cells #[.slice none 0 0, .slice none 0 0] 95)).alloc (.cells #[] 73)) (w.heap.size + 1) #[.slice none 0 0, .slice none 0 0]) := by
  have := (BoxM.start (w.alloc (.cells #[.bool false, .slice a1 n1 q1, .slice a2 n2 q2, .slice a3 n3 q3, .slice a4 n4 q4] 54)) #[.slice none 0 0, .slice none 0 0]).alloc (.cells #[] 73)
  rw [World.size_alloc] at this
  exact this
 have ZW : Hid (w.heap.size + 2 ≤ (((w.alloc (.cells #[.bool false, .slice a1 n1 q1, .slice a2 n2 q2, .slice a3 n3 q3, .slice a4 n4 q4] 54)).alloc (.cells #[.slice none 0 0, .slice none 0 0] 95)).alloc (.cells #[] 73)).heap.size) := by show _ ≤ _; simp
 show Calls Try.prog 50 #[.agg #[.bool false, .slice a1 n1 q1, .slice a2 n2 q2, .slice a3 n3 q3, .slice a4 n4 q4], .slice am nm qm] w _
 obtain ⟨k0, k1, k2, k3, k4⟩ := box_cells5 S0.out
 go_enter Try.func50, Try.ntmps50
 go_wp2_with (at_builtin; refine list_appE (((w.alloc (.cells #[.bool false, .slice a1 n1 q1, .slice a2 n2 q2, .slice a3 n3 q3, .slice a4 n4 q4] 54)).alloc (.cells #[.slice none 0 0, .slice none 0 0] 95)).alloc (.cells #[] 73)) rfl _ _ 52 rfl (w.heap.size + 2) 73 i1 _ 3 24 Try.underlying52 hi1 hw0 hw1 hw2 rfl (by decide) _ 0 [] rfl (OwnE.zero _ _ _ _ _) (.slice a4 n4 q4) n4 fb rfl (RB.out.below B0.out) LFL.out.1 O1.out Z1.out.1 Z1.out.2 ZW.out ?_)
 intro v1 w1 A1
 have L1 : Below (((w.alloc (.cells #[.bool false, .slice a1 n1 q1, .slice a2 n2 q2, .slice a3 n3 q3, .slice a4 n4 q4] 54)).alloc (.cells #[.slice none 0 0, .slice none 0 0] 95)).alloc (.cells #[] 73)).heap.size (((w.alloc (.cells #[.bool false, .slice a1 n1 q1, .slice a2 n2 q2, .slice a3 n3 q3, .slice a4 n4 q4] 54)).alloc (.cells #[.slice none 0 0, .slice none 0 0] 95)).alloc (.cells #[] 73)) w1 := A1.2.1.below (fun g _ h => absurd h (wrB_zero _ _)) (Nat.le_refl _)
 have B1 : Hid (Below w.heap.size w w1) := Below.and B0.out L1
 have S1 := hid (S0.out.step L1)
 have X1' := hid (X1.out.step L1 X1.out.lt)
 have OW1 := hid (A1.1)
 have ZW1 := hid (Nat.le_trans ZW.out L1.size)
 obtain ⟨av1, qv1, hv1⟩ := OW1.out.slice
 subst hv1
 clear A1 L1 B0 S0 X1 ZW k0 k1 k2 k3 k4
 go_wp2_with (at_builtin; refine list_appE w1 rfl _ _ 52 rfl (w.heap.size + 2) 73 i1 _ 3 24 Try.underlying52 hi1 hw0 hw1 hw2 rfl (by decide) (.slice av1 n4 qv1) n4 fb rfl OW1.out (.slice am nm qm) nm fm rfl (RM.out.below B1.out) LFL.out.2 O2.out Z2.out.1 Z2.out.2 ZW1.out ?_)
 intro v2 w2 A2
 have NW : ∀ g, wrB (.slice av1 n4 qv1) g → w.heap.size + 2 ≤ g := fun g hg => (OW1.out.lt g hg).1
 have B2 := hid (B1.out.trans (A2.2.1.below (fun g _ hg => by have := NW g hg; omega) (by have := ZW1.out; omega)))
 have S2 := hid (S1.out.chg A2.2.1 (fun h => by have := NW _ h; omega))
 have X2 := hid (X1'.out.chg A2.2.1 (fun h => by have := NW _ h; omega))
 have ZW2 := hid (Nat.le_trans ZW1.out A2.2.1.size)
 have R2 : Hid (Row w2 v2 nb fa) := by
  have := A2.1.rowF.row
  rw [← FA.out.1, ← FA.out.2] at this
  exact this
 obtain ⟨av2, qv2, hv2⟩ := A2.1.slice
 rw [← FA.out.1] at hv2
 subst hv2
 have HS1 : Hid _ := HS.out _ w2 R2.out
 clear A2 NW B1 S1 X1' OW1 ZW1 HS R2
 obtain ⟨k0, k1, k2, k3, k4⟩ := box_cells5 S2.out
 go_wp2_with fail
 refine Calls.mono HS1.out ?_
 rintro e w3 ⟨v3, rfl, o3, hb3⟩
 obtain ⟨av3, qv3, hv3, _⟩ := (Row.of_owns o3).len
 subst hv3
 have B3 := hid (Below.and B2.out hb3)
 have S3 := hid (S2.out.step hb3)
 have X3 := hid (X2.out.step hb3 X2.out.lt)
 have ZW3 := hid (Nat.le_trans ZW2.out hb3.size)
 have R3 : Hid (RowF w3 (fun g => w.heap.size + 2 ≤ g ∧ g < w3.heap.size) (.slice av3 SB.length qv3) SB.length (flatM SB)) := (RowF.of_owns o3).mono (fun g hg => ⟨Nat.le_trans ZW2.out (o3.lt g hg).1, (o3.lt g hg).2⟩)
 clear o3 hb3 k0 k1 k2 k3 k4 S2 X2 B2 ZW2 HS1
 obtain ⟨k0, k1, k2, k3, k4⟩ := box_cells5 S3.out
 go_wp2_with fail
 have BEG : Hid (BoxM (w3.alloc (.cells #[.slice a3 n3 q3, .slice a2 n2 q2] 95)) w3.heap.size #[.slice a3 n3 q3, .slice a2 n2 q2] ∧ BoxM (w3.alloc (.cells #[.slice a3 n3 q3, .slice a2 n2 q2] 95)) (w.heap.size + 1) #[.slice none 0 0, .slice none 0 0] ∧ TreesF d (w3.alloc (.cells #[.slice a3 n3 q3, .slice a2 n2 q2] 95)) (fun b => ((F b ∧ b < w.heap.size) ∨ w.heap.size + 2 ≤ b) ∧ b ≠ w3.heap.size) (.slice a3 n3 q3) KK ∧ RowF (w3.alloc (.cells #[.slice a3 n3 q3, .slice a2 n2 q2] 95)) (fun b => ((F b ∧ b < w.heap.size) ∨ w.heap.size + 2 ≤ b) ∧ b ≠ w3.heap.size) (.slice a2 n2 q2) n2 (flatI CC) ∧ RowF (w3.alloc (.cells #[.slice a3 n3 q3, .slice a2 n2 q2] 95)) (fun b => ((F b ∧ b < w.heap.size) ∨ w.heap.size + 2 ≤ b) ∧ b ≠ w3.heap.size) (.slice av3 SB.length qv3) SB.length (flatM SB) ∧ Below w.heap.size w (w3.alloc (.cells #[.slice a3 n3 q3, .slice a2 n2 q2] 95)) ∧ w3.heap.size < (w3.alloc (.cells #[.slice a3 n3 q3, .slice a2 n2 q2] 95)).heap.size) := by
  have hz := ZW3.out
  have hb : Below w.heap.size w (w3.alloc (.cells #[.slice a3 n3 q3, .slice a2 n2 q2] 95)) := Below.and B3.out (al1 _ _)
  refine ⟨BoxM.start _ _, X3.out.alloc _, (TK.out.frame (fun g hg _ => hb.block g hg.2)).mono (fun g hg => ⟨.inl hg, by omega⟩), (TC.out.frame (fun g hg _ => hb.block g hg.2)).mono (fun g hg => ⟨.inl hg, by omega⟩), (R3.out.below (al1 _ _)).mono (fun g hg => ⟨.inr hg.1, by omega⟩), hb, by simp⟩
 clear k0 k1 k2 k3 k4 S3 X3 B3 R3 TK TC RB RM
 generalize w3.alloc (.cells #[.slice a3 n3 q3, .slice a2 n2 q2] 95) = W at *
 have hL2 : w.heap.size + 2 ≤ w3.heap.size := ZW3.out
 clear ZW3
 generalize w3.heap.size = L at *
 go_loopw [5] (fun vb wr => ∃ (mm : TM) (bb : ML) (f : Nat) (e1 e2 e3 : Option Addr) (p1 p2 p3 : Nat), vb = .slice e3 bb.length p3 ∧ Hid (RowF wr (fun b => ((F b ∧ b < w.heap.size) ∨ w.heap.size + 2 ≤ b) ∧ b ≠ L) (.slice e3 bb.length p3) bb.length (flatM bb)) ∧ Hid (BoxM wr L #[.slice e1 mm.1.length p1, .slice e2 mm.2.length p2]) ∧ Hid (TreesF d wr (fun b => ((F b ∧ b < w.heap.size) ∨ w.heap.size + 2 ≤ b) ∧ b ≠ L) (.slice e1 mm.1.length p1) mm.1) ∧ Hid (RowF wr (fun b => ((F b ∧ b < w.heap.size) ∨ w.heap.size + 2 ≤ b) ∧ b ≠ L) (.slice e2 mm.2.length p2) mm.2.length (flatI mm.2)) ∧ Hid (MOk d mm) ∧ 2 ≤ mm.1.length ∧ Hid (wtL d mm.1 + bb.length ≤ 1000000) ∧ Hid (bb.length ≤ f) ∧ Hid (loopM (giveM d) f mm bb = R) ∧ Hid (BoxM wr (w.heap.size + 1) #[.slice none 0 0, .slice none 0 0]) ∧ Hid (Below w.heap.size w wr) ∧ Hid (L < wr.heap.size))
  (fun vb _ => lenV vb)
 case atStart => exact ⟨(KK, CC), SB, SB.length, a3, a2, av3, q3, q2, qv3, rfl, BEG.out.2.2.2.2.1, by rw [hn3, hn2]; exact BEG.out.1, by rw [hn3]; exact BEG.out.2.2.1, by rw [hn2]; exact BEG.out.2.2.2.1, MO, (by show 2 ≤ KK.length; omega), hwk, Nat.le_refl _, RR, BEG.out.2.1, BEG.out.2.2.2.2.2.1, BEG.out.2.2.2.2.2.2⟩
 case round =>
  obtain ⟨mm, bb, f, e1, e2, e3, p1, p2, p3, rfl, RBB, BL, TM1, RM1, MO1, h21, HW, HF, HL, BR, BW, ZL⟩ := hrel
  clear BEG RR MO
  by_cases h6 : 6 < bb.length
  ·have hA := (mostTo_is mm.2 bb mm.1.length (by omega)).1
   have hp := most_pos (cs := mm.2) (b := bb) (n := mm.1.length) (by omega) (by have := MO1.out.1; omega)
   have HGO : Hid _ := (loopM_go (giveM d) f mm bb h6 HF.out).symm.trans HL.out
   have hwl := wtL_length MO1.out.2
   have hww := HW.out
   have HM : Hid (∀ w1, Below wr.heap.size wr w1 → Calls Try.prog 61 #[.agg #[.slice e1 mm.1.length p1, .slice e2 mm.2.length p2], .slice e3 bb.length p3] w1 fun e w' => e = .returned (.int .i64 ((mostTo mm.2 bb mm.1.length).1 : Nat)) ∧ Below w1.heap.size w1 w') := fun w1 hb => l4Most_any e1 mm.1.length p1 _ _ mm.2 bb w1 (RM1.out.row.below hb) (RBB.out.row.below hb) (by omega) (by omega)
   have HP : Hid (∀ (i : Nat) w1, Below wr.heap.size wr w1 → Calls Try.prog 62 #[.agg #[.slice e1 mm.1.length p1, .slice e2 mm.2.length p2], .slice e3 bb.length p3, .int .i64 (i : Nat)] w1 fun e w' => ∃ v1 v2, e = .returned (.tuple #[v1, v2]) ∧ w'.ownsRow w1.heap.size 73 3 v1 (mineF mm.2 i bb).length (flatM (mineF mm.2 i bb)) ∧ w'.ownsRow w1.heap.size 73 3 v2 (restF mm.2 i bb).length (flatM (restF mm.2 i bb)) ∧ Below w1.heap.size w1 w') := fun i w1 hb => l4Split_any e1 mm.1.length p1 _ _ mm.2 bb i w1 (RM1.out.row.below hb) (RBB.out.row.below hb) (by omega)
   generalize (mostTo mm.2 bb mm.1.length).1 = A at *
   have HPA : Hid (∀ w1, Below wr.heap.size wr w1 → _) := fun w1 h => HP.out A w1 h
   clear HP
   have hk := giveM_ok d _ _ (MO1.out.2 _ (getD_mem hA)) hp
   have hmr := mine_rest mm.2 A bb
   have hwt := wt_at (d := d) hA
   have hpm := putM_ok MO1.out hk.1 hA
   have hxl := wtL_length hk.1.2
   have hx1 := hk.1.1
   have SHK : Hid (shT d (mm.1.getD A noTr)) := MO1.out.2 _ (getD_mem hA)
   obtain ⟨xs, ex, rx⟩ := TM1.out.els
   have hxs := ex.1
   rw [← hxs] at rx
   obtain ⟨av, b1, off1, c1, hv, hcap, hmax, ha, d0, d1, d2, d3, d4⟩ := rx.row.trees
   have hv' := Value.slice.inj hv
   obtain ⟨rfl, _, rfl⟩ := hv'
   have hav := ha (by omega)
   subst hav
   have KT := ex.2 A (by omega)
   obtain ⟨r1, r2, r3, r4, s1, s2, s3, s4, hy⟩ := KT.treeAt.shape
   have KC : Hid (∀ w1, Below wr.heap.size wr w1 → w1.cell? ⟨b1, off1 + A * 5, none⟩ = some (.bool (tvAt xs A).lf) ∧ w1.cell? ⟨b1, off1 + A * 5 + 1, none⟩ = some (tvAt xs A).p ∧ w1.cell? ⟨b1, off1 + A * 5 + 2, none⟩ = some (tvAt xs A).c ∧ w1.cell? ⟨b1, off1 + A * 5 + 3, none⟩ = some (tvAt xs A).k ∧ w1.cell? ⟨b1, off1 + A * 5 + 4, none⟩ = some (tvAt xs A).b) := fun w1 h => by
    have hA' : A < xs.length := by omega
    exact ⟨cell_lowB h (cell_lt (d0 A hA')) (d0 A hA'), cell_lowB h (cell_lt (d1 A hA')) (d1 A hA'), cell_lowB h (cell_lt (d2 A hA')) (d2 A hA'), cell_lowB h (cell_lt (d3 A hA')) (d3 A hA'), cell_lowB h (cell_lt (d4 A hA')) (d4 A hA')⟩
   have HK : Hid (∀ (v : Value) w1, Below wr.heap.size wr w1 → Row w1 v (mineF mm.2 A bb).length (flatM (mineF mm.2 A bb)) → Calls Try.prog 50 #[(tvAt xs A).val, v] w1 fun e w' => ∃ v1 v2, e = .returned (.agg #[v1, v2]) ∧ TreesF d w' (fun b => (fun b => ((F b ∧ b < w.heap.size) ∨ w.heap.size + 2 ≤ b) ∧ b ≠ L) b ∨ w1.heap.size ≤ b) v1 (giveM d (mm.1.getD A noTr) (mineF mm.2 A bb)).1 ∧ RowF w' (fun b => (fun b => ((F b ∧ b < w.heap.size) ∨ w.heap.size + 2 ≤ b) ∧ b ≠ L) b ∨ w1.heap.size ≤ b) v2 (giveM d (mm.1.getD A noTr) (mineF mm.2 A bb)).2.length (flatI (giveM d (mm.1.getD A noTr) (mineF mm.2 A bb)).2) ∧ Below w1.heap.size w1 w') :=
    fun v w1 hb hr => H (fun b => ((F b ∧ b < w.heap.size) ∨ w.heap.size + 2 ≤ b) ∧ b ≠ L) (tvAt xs A) (mm.1.getD A noTr) v (mineF mm.2 A bb) w1 (KT.below hb) hr SHK.out hp (by omega)
   rw [hy] at KC HK
   simp only at KC
   generalize giveM d (mm.1.getD A noTr) (mineF mm.2 A bb) = GM at *
   have HPUT : Hid (∀ (ut uc : Value) w1 (F6 : Nat → Prop), TreesF d w1 F6 (.slice (some ⟨b1, off1, none⟩) mm.1.length p1) mm.1 → RowF w1 F6 (.slice e2 mm.2.length p2) mm.2.length (flatI mm.2) → TreesF d w1 F6 ut GM.1 → RowF w1 F6 uc GM.2.length (flatI GM.2) → Calls Try.prog 63 #[.agg #[.slice (some ⟨b1, off1, none⟩) mm.1.length p1, .slice e2 mm.2.length p2], .int .i64 (A : Nat), .agg #[ut, uc]] w1 fun e w' => ∃ v1 v2, e = .returned (.agg #[v1, v2]) ∧ TreesF d w' (fun b => F6 b ∨ w1.heap.size ≤ b) v1 (putM mm A GM).1 ∧ RowF w' (fun b => F6 b ∨ w1.heap.size ≤ b) v2 (putM mm A GM).2.length (flatI (putM mm A GM).2) ∧ Below w1.heap.size w1 w') :=
    fun ut uc w1 F6 g1 g2 g3 g4 => l4Put_any d F6 _ _ ut uc mm GM A w1 g1 g2 g3 g4 MO1.out.1 h21 hA (by omega) (by omega) (by omega)
   have NEXT : Hid (MOk d (putM mm A GM) ∧ 2 ≤ (putM mm A GM).1.length ∧ wtL d (putM mm A GM).1 + (restF mm.2 A bb).length ≤ 1000000 ∧ (restF mm.2 A bb).length ≤ f - 1 ∧ loopM (giveM d) (f - 1) (putM mm A GM) (restF mm.2 A bb) = R ∧ (restF mm.2 A bb).length < bb.length) := ⟨hpm.1, by omega, by omega, by have := HF.out; omega, HGO.out, by omega⟩
   have hAn : A < mm.1.length := hA
   clear HGO hk hmr hwt hpm hxl hx1 SHK ex hxs rx hcap hmax ha d0 d1 d2 d3 d4 KT hy HF HL HW MO1 hwl hww hp
   generalize putM mm A GM = PM at *
   generalize mineF mm.2 A bb = MF at *
   generalize restF mm.2 A bb = RF at *
   generalize (mm.1.getD A noTr).leaf = z0 at *
   generalize (mm.1.getD A noTr).pairs.length = z1 at *
   generalize (mm.1.getD A noTr).cuts.length = z2 at *
   generalize (mm.1.getD A noTr).kids.length = z3 at *
   generalize (mm.1.getD A noTr).buf.length = z4 at *
   have h6' : (6 : Int) < (bb.length : Int) := by omega
   generalize hbl : bb.length = nb2 at *
   generalize hnn : mm.1.length = nn at *
   generalize hnc : mm.2.length = nc at *
   have HM1 : Hid _ := HM.out wr (Below.refl _ _)
   obtain ⟨x0, x1⟩ := BL.out.two
   go_wp2_with fail
   refine Calls.mono HM1.out ?_
   rintro e w4 ⟨rfl, hb4⟩
   have B4 : Hid (Below wr.heap.size wr w4) := hb4
   obtain ⟨x2, x3⟩ := (BL.out.step hb4 BL.out.lt).two
   clear x0 x1 hb4 HM HM1
   have HP1 : Hid _ := HPA.out w4 B4.out
   go_wp2_with fail
   refine Calls.mono HP1.out ?_
   rintro e w5 ⟨u1, u2, rfl, o1, o2, hb5⟩
   obtain ⟨am5, qm5, hu1, _⟩ := (Row.of_owns o1).len
   obtain ⟨ar5, qr5, hu2, _⟩ := (Row.of_owns o2).len
   subst hu1
   subst hu2
   have B5 : Hid (Below wr.heap.size wr w5.drew) := (Below.and B4.out hb5).drew
   have R1 : Hid (Row w5.drew (.slice am5 MF.length qm5) MF.length (flatM MF)) := Row.of_owns o1
   have R2 : Hid (RowF w5.drew (fun g => L < g) (.slice ar5 RF.length qr5) RF.length (flatM RF)) := ((RowF.of_owns o2).mono (fun g hg => by have h1 := (o2.lt g hg).1; have h2 := B4.out.size; have h3 := ZL.out; omega)).below (Below.refl _ _).drew
   clear x2 x3 o1 o2 hb5 HPA HP1 B4
   have BL5 : Hid (BoxM w5.drew L #[.slice (some ⟨b1, off1, none⟩) nn p1, .slice e2 nc p2]) := BL.out.step B5.out BL.out.lt
   obtain ⟨t0, t1, t2, t3, t4⟩ := KC.out w5.drew B5.out
   have hS : w5.drew.cell? ⟨L, 0, none⟩ = some (.slice (some ⟨b1, off1, none⟩) nn p1) ∧ w5.drew.cell? ⟨L, 1, none⟩ = some (.slice e2 nc p2) ∧ w5.drew.cell? ⟨b1, off1 + A * 5, none⟩ = some (.bool z0) ∧ w5.drew.cell? ⟨b1, off1 + A * 5 + 1, none⟩ = some (.slice r1 z1 s1) ∧ w5.drew.cell? ⟨b1, off1 + A * 5 + 2, none⟩ = some (.slice r2 z2 s2) ∧ w5.drew.cell? ⟨b1, off1 + A * 5 + 3, none⟩ = some (.slice r3 z3 s3) ∧ w5.drew.cell? ⟨b1, off1 + A * 5 + 4, none⟩ = some (.slice r4 z4 s4) := ⟨BL5.out.two.1, BL5.out.two.2, t0, t1, t2, t3, t4⟩
   have hA1 : (0 : Int) ≤ (A : Int) := by omega
   have hA2 : (A : Int) < (nn : Int) := by omega
   clear t0 t1 t2 t3 t4
   go_wp2_with fail
   refine wp_region_last (fun w' => w'.cell? ⟨L, 0, none⟩ = some (.slice (some ⟨b1, off1, none⟩) nn p1) ∧ w'.cell? ⟨L, 1, none⟩ = some (.slice e2 nc p2) ∧ w'.cell? ⟨b1, off1 + A * 5, none⟩ = some (.bool z0) ∧ w'.cell? ⟨b1, off1 + A * 5 + 1, none⟩ = some (.slice r1 z1 s1) ∧ w'.cell? ⟨b1, off1 + A * 5 + 2, none⟩ = some (.slice r2 z2 s2) ∧ w'.cell? ⟨b1, off1 + A * 5 + 3, none⟩ = some (.slice r3 z3 s3) ∧ w'.cell? ⟨b1, off1 + A * 5 + 4, none⟩ = some (.slice r4 z4 s4)) [_, _, _, _, _, _, _, _, _, _] _ rfl (by kernel_rfl) (by kernel_rfl) ?_
   generalize w5.drew = wd at *
   refine tq 0 rfl (by kernel_rfl) (fun _ _ _ h => h) (by assumption) rfl (by intro w h; go_simp <;> with_reducible rfl) ?_
   try simp only [Act.put, sA, sB, sC]
   refine tq 1 rfl (by kernel_rfl) (fun _ _ _ h => h) (by assumption) rfl (by intro w h; go_simp <;> with_reducible rfl) ?_
   try simp only [Act.put, sA, sB, sC]
   refine tq 2 rfl (by kernel_rfl) (fun _ _ _ h => h) (by assumption) rfl (by intro w h; go_simp <;> with_reducible rfl) ?_
   try simp only [Act.put, sA, sB, sC]
   refine tq 3 rfl (by kernel_rfl) (fun _ _ _ h => h) (by assumption) rfl (by intro w h; go_simp <;> with_reducible rfl) ?_
   try simp only [Act.put, sA, sB, sC]
   refine tq 4 rfl (by kernel_rfl) (fun _ _ _ h => h) (by assumption) rfl (by intro w h; go_simp <;> with_reducible rfl) ?_
   try simp only [Act.put, sA, sB, sC]
   refine tq 5 rfl (by kernel_rfl) (fun _ _ _ h => h) (by assumption) rfl (by intro w h; go_simp <;> with_reducible rfl) ?_
   try simp only [Act.put, sA, sB, sC]
   refine tq 6 rfl (by kernel_rfl) (fun _ _ _ h => h) (by assumption) rfl (by intro w h; go_simp <;> with_reducible rfl) ?_
   try simp only [Act.put, sA, sB, sC]
   refine tq 7 rfl (by kernel_rfl) (fun _ _ _ h => h) (by assumption) rfl (by intro w h; go_simp <;> with_reducible rfl) ?_
   try simp only [Act.put, sA, sB, sC]
   refine rq 8 (by kernel_rfl) rfl (fun K hK => ?_)
   go_simp
   refine Calls.mono (HK.out _ wd B5.out R1.out) ?_
   rintro e w6 ⟨u1, u2, rfl, TG, RG, hb6⟩
   obtain ⟨ax, qx, hu1, _⟩ := (show Row w6 u1 GM.1.length _ from (TG.els.choose_spec.2).row).len
   obtain ⟨ay, qy, hu2, _⟩ := RG.row.len
   subst hu1
   subst hu2
   have B6 : Hid (Below wr.heap.size wr w6) := Below.and B5.out hb6
   have TG6 : Hid (TreesF d w6 (fun b => (fun b => ((F b ∧ b < w.heap.size) ∨ w.heap.size + 2 ≤ b) ∧ b ≠ L) b ∨ wd.heap.size ≤ b) (.slice ax GM.1.length qx) GM.1) := TG
   have RG6 : Hid (RowF w6 (fun b => (fun b => ((F b ∧ b < w.heap.size) ∨ w.heap.size + 2 ≤ b) ∧ b ≠ L) b ∨ wd.heap.size ≤ b) (.slice ay GM.2.length qy) GM.2.length (flatI GM.2)) := RG
   have ZD : Hid (L < wd.heap.size) := BL5.out.lt
   have B56 : Hid (Below wd.heap.size wd w6) := hb6
   have BL6 : Hid (BoxM w6 L #[.slice (some ⟨b1, off1, none⟩) nn p1, .slice e2 nc p2]) := BL5.out.step hb6 BL5.out.lt
   obtain ⟨t0, t1, t2, t3, t4⟩ := KC.out w6 B6.out
   have hS6 : _ ∧ _ ∧ _ ∧ _ ∧ _ ∧ _ ∧ _ := ⟨BL6.out.two.1, BL6.out.two.2, t0, t1, t2, t3, t4⟩
   have HP6 : Hid _ := HPUT.out (.slice ax GM.1.length qx) (.slice ay GM.2.length qy) w6 (fun b => (fun b => ((F b ∧ b < w.heap.size) ∨ w.heap.size + 2 ≤ b) ∧ b ≠ L) b ∨ wd.heap.size ≤ b) ((TM1.out.below B6.out).mono (fun g hg => .inl hg)) ((RM1.out.below B6.out).mono (fun g hg => .inl hg)) TG6.out RG6.out
   clear TG RG hb6 t0 t1 t2 t3 t4 hS
   dsimp only
   refine hK.out _ _ hS6 (fun hH => ?_)
   clear hK K
   try simp only [Act.put, sA, sB, sC]
   refine rq 9 (by kernel_rfl) rfl (fun K hK => ?_)
   go_simp
   refine Calls.mono HP6.out ?_
   rintro e w7 ⟨u1, u2, rfl, TP, RPP, hb7⟩
   obtain ⟨az, qz, hu1, _⟩ := (show Row w7 u1 PM.1.length _ from (TP.els.choose_spec.2).row).len
   obtain ⟨ay2, qy2, hu2, _⟩ := RPP.row.len
   subst hu1
   subst hu2
   have B7 : Hid (Below wr.heap.size wr w7) := Below.and B6.out hb7
   have Z67 : Hid (wd.heap.size ≤ w6.heap.size) := B56.out.size
   have BL7 : Hid (BoxM w7 L #[.slice (some ⟨b1, off1, none⟩) nn p1, .slice e2 nc p2]) := BL6.out.step hb7 BL6.out.lt
   have R7 : Hid (RowF w7 (fun g => L < g) (.slice ar5 RF.length qr5) RF.length (flatM RF)) := (R2.out.below B56.out).below hb7
   have FIN : Hid (∀ v v', TreesF d (set2 w7 L v v') (fun b => ((F b ∧ b < w.heap.size) ∨ w.heap.size + 2 ≤ b) ∧ b ≠ L) (.slice az PM.1.length qz) PM.1 ∧ RowF (set2 w7 L v v') (fun b => ((F b ∧ b < w.heap.size) ∨ w.heap.size + 2 ≤ b) ∧ b ≠ L) (.slice ay2 PM.2.length qy2) PM.2.length (flatI PM.2) ∧ BoxM (set2 w7 L v v') (w.heap.size + 1) #[.slice none 0 0, .slice none 0 0] ∧ Below w.heap.size w (set2 w7 L v v') ∧ L < (set2 w7 L v v').heap.size) := fun v v' => by
    have hz := ZD.out
    have hz2 := Z67.out
    have hk : ∀ g, (fun b => (fun b => ((F b ∧ b < w.heap.size) ∨ w.heap.size + 2 ≤ b) ∧ b ≠ L) b ∨ wd.heap.size ≤ b) g ∨ w6.heap.size ≤ g → (fun b => ((F b ∧ b < w.heap.size) ∨ w.heap.size + 2 ≤ b) ∧ b ≠ L) g := fun g hg => by
     rcases hg with (h | h) | h
     ·exact h
     ·exact ⟨.inr (by omega), by omega⟩
     ·exact ⟨.inr (by omega), by omega⟩
    have hc := chg_set2 w7 L v v'
    exact ⟨((TP.mono hk).chg hc (fun g hg => hg.2)), ((RPP.mono hk).chg hc (fun g hg => hg.2)), (BR.out.step B7.out BR.out.lt).chg hc (by omega), (Below.and BW.out B7.out).trans (hc.below (fun g _ hg => by omega) (by have := (Below.and BW.out B7.out).size; omega)), by have := BL7.out.lt; simpa using this⟩
   have R8 : Hid (∀ v v', RowF (set2 w7 L v v') (fun b => ((F b ∧ b < w.heap.size) ∨ w.heap.size + 2 ≤ b) ∧ b ≠ L) (.slice ar5 RF.length qr5) RF.length (flatM RF)) := fun v v' => (R7.out.chg (chg_set2 w7 L v v') (fun g hg k => by omega)).mono (fun g hg => ⟨.inr (by omega), by omega⟩)
   obtain ⟨m0, m1⟩ := BL7.out.two
   obtain ⟨f0, f1⟩ := BL7.out.free
   obtain ⟨t0, t1, t2, t3, t4⟩ := KC.out w7 B7.out
   clear TP RPP hb7 HP6
   dsimp only
   refine hK.out _ _ ⟨m0, m1, t0, t1, t2, t3, t4⟩ (fun hH => ?_)
   clear hK K
   try simp only [Act.put, sA, sB, sC]
   refine wpAnyH_done (by kernel_rfl) ?_ _
   show Oper.wp _ _ _ _ _ _
   go_simp
   clear m0 m1 f0 f1 t0 t1 t2 t3 t4 hH hS6 KC HK HPUT
   go_wp2
   go_roundw
   case rel => exact ⟨PM, RF, f - 1, az, ay2, ar5, qz, qy2, qr5, rfl, R8.out _ _, BL7.out.set2 _ _, (FIN.out _ _).1, (FIN.out _ _).2.1, NEXT.out.1, NEXT.out.2.1, NEXT.out.2.2.1, NEXT.out.2.2.2.1, NEXT.out.2.2.2.2.1, (FIN.out _ _).2.2.1, (FIN.out _ _).2.2.2.1, (FIN.out _ _).2.2.2.2⟩
   case measure => exact NEXT.out.2.2.2.2.2
  ·have E : R = (mm, bb) := HL.out.symm.trans (loopM_stop (giveM d) f mm bb h6)
   have hwl := wtL_length MO1.out.2
   have hww := HW.out
   by_cases h4 : 4 < mm.1.length
   ·have EE : Hid (endM (giveM d) R = packM (downM (giveM d) mm bb)) := by show _ = _; rw [E, endM, if_pos h4]
    have HD1 : Hid _ := HD (fun b => ((F b ∧ b < w.heap.size) ∨ w.heap.size + 2 ≤ b) ∧ b ≠ L) _ _ _ mm bb wr TM1.out RM1.out RBB.out.row MO1.out HW.out
    obtain ⟨q1', q2', q3'⟩ := downM_ok (giveM_ok d) MO1.out bb
    have hdl := wtL_length q1'.2
    have HPK : Hid (∀ (F8 : Nat → Prop) v1 v2 w1, TreesF d w1 F8 v1 (downM (giveM d) mm bb).1 → RowF w1 F8 v2 (downM (giveM d) mm bb).2.length (flatI (downM (giveM d) mm bb).2) → Calls Try.prog 57 #[.agg #[v1, v2]] w1 fun e w' => ∃ u1 u2, e = .returned (.agg #[u1, u2]) ∧ TreesF (d + 1) w' (fun b => F8 b ∨ w1.heap.size ≤ b) u1 (packM (downM (giveM d) mm bb)).1 ∧ RowF w' (fun b => F8 b ∨ w1.heap.size ≤ b) u2 (packM (downM (giveM d) mm bb)).2.length (flatI (packM (downM (giveM d) mm bb)).2) ∧ Below w1.heap.size w1 w') := fun F8 v1 v2 w1 g1 g2 => l4Pack_any d F8 v1 v2 _ w1 g1 g2 q1'.1 (by omega) (by omega)
    clear q1' q2' q3' hdl hwl hww HW MO1 HF HL TM1 RM1 RBB H HD E
    generalize packM (downM (giveM d) mm bb) = PK at *
    generalize downM (giveM d) mm bb = DM at *
    have h4' : (4 : Int) < (mm.1.length : Int) := by omega
    have h6' : ¬ (6 : Int) < (bb.length : Int) := by omega
    generalize hbl : bb.length = nb2 at *
    generalize hnn : mm.1.length = nn at *
    generalize hnc : mm.2.length = nc at *
    obtain ⟨x0, x1⟩ := BL.out.two
    go_wp2_with fail
    refine Calls.mono HD1.out ?_
    rintro e w8 ⟨u1, u2, rfl, TD, RD, hb8⟩
    have HPK1 : Hid _ := HPK.out _ u1 u2 w8 TD RD
    obtain ⟨ax, qx, hu1, _⟩ := (show Row w8 u1 DM.1.length _ from (TD.els.choose_spec.2).row).len
    obtain ⟨ay, qy, hu2, _⟩ := RD.row.len
    subst hu1
    subst hu2
    have B8 : Hid (Below wr.heap.size wr w8) := hb8
    clear x0 x1 TD RD hb8 HD1 HPK
    go_wp2_with fail
    refine Calls.mono HPK1.out ?_
    rintro e w9 ⟨u1, u2, rfl, TP, RPP, hb9⟩
    obtain ⟨az, qz, hu1, _⟩ := (show Row w9 u1 PK.1.length _ from (TP.els.choose_spec.2).row).len
    obtain ⟨ay2, qy2, hu2, _⟩ := RPP.row.len
    subst hu1
    subst hu2
    have BR9 : Hid (BoxM w9 (w.heap.size + 1) #[.slice none 0 0, .slice none 0 0]) := (BR.out.step B8.out BR.out.lt).step hb9 (BR.out.step B8.out BR.out.lt).lt
    have FIN : Hid (∀ v v', TreesF (d + 1) (set2 w9 (w.heap.size + 1) v v') (fun b => F b ∨ w.heap.size ≤ b) (.slice az PK.1.length qz) PK.1 ∧ RowF (set2 w9 (w.heap.size + 1) v v') (fun b => F b ∨ w.heap.size ≤ b) (.slice ay2 PK.2.length qy2) PK.2.length (flatI PK.2) ∧ Below w.heap.size w (set2 w9 (w.heap.size + 1) v v')) := fun v v' => by
     have hz := ZL.out
     have hz8 := B8.out.size
     have hz9 := hb9.size
     have hk : ∀ g, ((fun b => ((F b ∧ b < w.heap.size) ∨ w.heap.size + 2 ≤ b) ∧ b ≠ L) g ∨ wr.heap.size ≤ g) ∨ w8.heap.size ≤ g → ¬ g = w.heap.size + 1 ∧ (F g ∨ w.heap.size ≤ g) := fun g hg => by
      rcases hg with (⟨⟨h1, h2⟩ | h, _⟩ | h) | h
      ·exact ⟨by omega, .inl h1⟩
      ·exact ⟨by omega, .inr (by omega)⟩
      ·exact ⟨by omega, .inr (by omega)⟩
      ·exact ⟨by omega, .inr (by omega)⟩
     have hc := chg_set2 w9 (w.heap.size + 1) v v'
     exact ⟨(TP.chg hc (fun g hg => (hk g hg).1)).mono (fun g hg => (hk g hg).2), (RPP.chg hc (fun g hg => (hk g hg).1)).mono (fun g hg => (hk g hg).2), (Below.and BW.out (Below.and B8.out hb9)).trans (hc.below (fun g _ hg => by omega) (by have := BW.out.size; omega))⟩
    obtain ⟨m0, m1⟩ := BR9.out.two
    obtain ⟨f0, f1⟩ := BR9.out.free
    clear TP RPP hb9 HPK1
    generalize PK.1.length = l1 at *
    generalize hl2 : PK.2.length = l2 at *
    go_wp2
    refine bodyPost_ret (v := .agg #[.slice az l1 qz, .slice ay2 l2 qy2]) (by simp [results, Try.results50, go_sem, m0, m1]) rfl ⟨_, _, rfl, ?_, ?_, (FIN.out _ _).2.2⟩
    ·rw [EE.out]
     exact (FIN.out _ _).1
    ·rw [EE.out, hl2]
     exact (FIN.out _ _).2.1
   ·have EE : Hid (endM (giveM d) R = ([⟨false, [], mm.2, mm.1, bb⟩], [])) := by show _ = _; rw [E, endM, if_neg h4]
    have h4' : ¬ (4 : Int) < (mm.1.length : Int) := by omega
    have h6' : ¬ (6 : Int) < (bb.length : Int) := by omega
    obtain ⟨x0, x1⟩ := BL.out.two
    have BRA : Hid (BoxM (wr.alloc (.cells #[.bool false, .slice none 0 0, .slice e2 mm.2.length p2, .slice e1 mm.1.length p1, .slice e3 bb.length p3] 54)) (w.heap.size + 1) #[.slice none 0 0, .slice none 0 0]) := BR.out.alloc _
    have FIN : Hid (∀ v v', TreesF (d + 1) (set2 (wr.alloc (.cells #[.bool false, .slice none 0 0, .slice e2 mm.2.length p2, .slice e1 mm.1.length p1, .slice e3 bb.length p3] 54)) (w.heap.size + 1) v v') (fun b => F b ∨ w.heap.size ≤ b) (.slice (some ⟨wr.heap.size, 0, none⟩) 1 1) [⟨false, [], mm.2, mm.1, bb⟩] ∧ Below w.heap.size w (set2 (wr.alloc (.cells #[.bool false, .slice none 0 0, .slice e2 mm.2.length p2, .slice e1 mm.1.length p1, .slice e3 bb.length p3] 54)) (w.heap.size + 1) v v')) := fun v v' => by
     have hz := ZL.out
     have hbw := BW.out.size
     have hc := chg_set2 (wr.alloc (.cells #[.bool false, .slice none 0 0, .slice e2 mm.2.length p2, .slice e1 mm.1.length p1, .slice e3 bb.length p3] 54)) (w.heap.size + 1) v v'
     have hk : ∀ g, (fun b => ((F b ∧ b < w.heap.size) ∨ w.heap.size + 2 ≤ b) ∧ b ≠ L) g → ¬ g = w.heap.size + 1 ∧ (F g ∨ w.heap.size ≤ g) := fun g hg => by
      rcases hg with ⟨⟨h1, h2⟩ | h, _⟩
      ·exact ⟨by omega, .inl h1⟩
      ·exact ⟨by omega, .inr (by omega)⟩
     refine ⟨⟨[⟨false, .slice none 0 0, .slice e2 mm.2.length p2, .slice e1 mm.1.length p1, .slice e3 bb.length p3⟩], rfl, ?_, fun i hi => ?_⟩, (Below.and BW.out (al1 wr _)).trans (hc.below (fun g _ hg => by omega) (by simp; omega))⟩
     ·exact ((RowF.laid wr [.bool false, .slice none 0 0, .slice e2 mm.2.length p2, .slice e1 mm.1.length p1, .slice e3 bb.length p3] 54 _ rfl).chg hc (fun g hg k => by omega)).mono (fun g hg => .inr (by omega))
     ·have hi0 : i = 0 := by simp at hi; omega
      subst hi0
      exact TreeF.mk rfl (RowF.nil _ _) (((RM1.out.below (al1 wr _)).chg hc (fun g hg => (hk g hg).1)).mono (fun g hg => (hk g hg).2)) (((RBB.out.below (al1 wr _)).chg hc (fun g hg => (hk g hg).1)).mono (fun g hg => (hk g hg).2)) (((TM1.out.below (al1 wr _)).chg hc (fun g hg => (hk g hg).1)).mono (fun g hg => (hk g hg).2))
    obtain ⟨m0, m1⟩ := BRA.out.two
    obtain ⟨f0, f1⟩ := BRA.out.free
    clear TM1 RM1 RBB H HD E HW MO1 HF HL hwl hww
    generalize hbl : bb.length = nb2 at *
    generalize hnn : mm.1.length = nn at *
    generalize hnc : mm.2.length = nc at *
    go_wp2
    refine bodyPost_ret (v := .agg #[.slice (some ⟨wr.heap.size, 0, none⟩) 1 1, .slice none 0 0]) (by simp [results, Try.results50, go_sem, m0, m1]) rfl ⟨_, _, rfl, ?_, ?_, (FIN.out _ _).2⟩
    ·rw [EE.out]
     exact (FIN.out _ _).1
    ·rw [EE.out]
     exact RowF.nil _ _
end
end Go.Proofs.Ytekcnibohikmdaa
