/-
  The program's saySnap and sayEntries: what a leader tells of its node.
-/
import Derived.Test.YtmdajbbpigbdcaaGreatOfFeed29
import Derived.Test.YtmdajbbpigbdcaaGreatOfFeed21
import Derived.Test.YtmdajbbpigbdcaaGreatOfFeed30
import Derived.Test.YtmdajbbpigbdcaaGreatOfFeed7
import Derived.BigRegion
namespace Go.Proofs.YtmdajbbpigbdcaaGreat
set_option maxRecDepth 100000
set_option maxHeartbeats 8000000
section
open Go.RowKit

theorem saySnap_any (n : Nat) (M : NodV) (D : Nd) (F1 : Nat → Prop) (w0 w : World) (B : Nat) (ti : Int) (h : NodAt n w0 M D) (hs : D.small n) (s1 : Src true n w0 F1 M.s.x D.T1) (hb : Below w0.heap.size w0 w) (hB0 : w0.heap.size ≤ B)
  (hB : w.heap[B]? = some (.cells #[.int .i64 5, .int .i64 M.id, .int .i64 ti, .int .i64 M.te, .int .i64 0, .int .i64 0, .int .i64 0, .bool false, .slice none 0 0, .bool false, .slice none 0 0, .slice none 0 0, .slice none 0 0, .slice none 0 0, .slice none 0 0] 57 (0, 0))) :
  Calls Tryz.prog 119 #[.pointer (some ⟨B, 0, none⟩), M.val] w fun e w' => e = .returned (.tuple #[]) ∧ ∃ K : RpcV, (rpSn M ti (.slice none 0 0) zM).like K ∧ w'.heap[B]? = some (.cells (rpcArr K) 57 (0, 0)) ∧ RpcDh n w' w.heap.size w'.heap.size K ⟨[], D.T1, D.d1⟩ ∧ Chg (fun g => g = B) w w' := by
 have CM : Hid (∀ u, Below w0.heap.size w0 u → Calls Tryz.prog 65 #[M.s.val] u fun e w' => ∃ m' : MacV, e = .returned m'.val ∧ MacD n w' (fun g => u.heap.size ≤ g) m' D.T1 D.d1 ∧ Below u.heap.size u w') := fun u hu => copyOfMachine_any true n M.s D.T1 D.d1 F1 u (s1.below hu) (h.2.1.2.below hu) hs.2.1 (fun e => by cases e) hs.2.2.1
 clear h hs s1
 obtain ⟨id, nte, vo, lb, lt, lv, ⟨⟨sl, sp, sc, sk, sb⟩, sv⟩, ro, vv, nv, mv, ncm, ⟨⟨ol, op, oc, ok, ob⟩, ov⟩⟩ := M
 have hBl : B < w.heap.size := (Array.getElem?_eq_some_iff.1 hB).1
 have Y1 : Hid ((w.alloc (.cells #[.int .i64 id, .int .i64 nte, .int .i64 vo, .int .i64 lb, .int .i64 lt, lv, .bool sl, sp, sc, sk, sb, sv, .int .i64 ro, vv, nv, mv, .int .i64 ncm, .bool ol, op, oc, ok, ob, ov] 50)).heap[w.heap.size]? = some (.cells #[.int .i64 id, .int .i64 nte, .int .i64 vo, .int .i64 lb, .int .i64 lt, lv, .bool sl, sp, sc, sk, sb, sv, .int .i64 ro, vv, nv, mv, .int .i64 ncm, .bool ol, op, oc, ok, ob, ov] 50 (0, 0))) := MBox.start 50 w #[.int .i64 id, .int .i64 nte, .int .i64 vo, .int .i64 lb, .int .i64 lt, lv, .bool sl, sp, sc, sk, sb, sv, .int .i64 ro, vv, nv, mv, .int .i64 ncm, .bool ol, op, oc, ok, ob, ov]
 have B1 : Hid (Below w.heap.size w (w.alloc (.cells #[.int .i64 id, .int .i64 nte, .int .i64 vo, .int .i64 lb, .int .i64 lt, lv, .bool sl, sp, sc, sk, sb, sv, .int .i64 ro, vv, nv, mv, .int .i64 ncm, .bool ol, op, oc, ok, ob, ov] 50))) := bel_nw _ _
 have X1 : Hid ((w.alloc (.cells #[.int .i64 id, .int .i64 nte, .int .i64 vo, .int .i64 lb, .int .i64 lt, lv, .bool sl, sp, sc, sk, sb, sv, .int .i64 ro, vv, nv, mv, .int .i64 ncm, .bool ol, op, oc, ok, ob, ov] 50)).heap[B]? = some (.cells #[.int .i64 5, .int .i64 id, .int .i64 ti, .int .i64 nte, .int .i64 0, .int .i64 0, .int .i64 0, .bool false, .slice none 0 0, .bool false, .slice none 0 0, .slice none 0 0, .slice none 0 0, .slice none 0 0, .slice none 0 0] 57 (0, 0))) := step_at hB B1.out
 have BB : Hid (Below w0.heap.size w0 (w.alloc (.cells #[.int .i64 id, .int .i64 nte, .int .i64 vo, .int .i64 lb, .int .i64 lt, lv, .bool sl, sp, sc, sk, sb, sv, .int .i64 ro, vv, nv, mv, .int .i64 ncm, .bool ol, op, oc, ok, ob, ov] 50))) := Below.and hb B1.out
 have CH : Hid (Chg (fun g => g = B) w (w.alloc (.cells #[.int .i64 id, .int .i64 nte, .int .i64 vo, .int .i64 lb, .int .i64 lt, lv, .bool sl, sp, sc, sk, sb, sv, .int .i64 ro, vv, nv, mv, .int .i64 ncm, .bool ol, op, oc, ok, ob, ov] 50))) := (Chg.refl _ _).alloc _
 have zw : w.heap.size < (w.alloc (.cells #[.int .i64 id, .int .i64 nte, .int .i64 vo, .int .i64 lb, .int .i64 lt, lv, .bool sl, sp, sc, sk, sb, sv, .int .i64 ro, vv, nv, mv, .int .i64 ncm, .bool ol, op, oc, ok, ob, ov] 50)).heap.size := by simp
 show Calls Tryz.prog 119 #[.pointer (some ⟨B, 0, none⟩), .agg #[.int .i64 id, .int .i64 nte, .int .i64 vo, .int .i64 lb, .int .i64 lt, lv, .bool sl, sp, sc, sk, sb, sv, .int .i64 ro, vv, nv, mv, .int .i64 ncm, .bool ol, op, oc, ok, ob, ov]] w _
 go_enter Tryz.func119, Tryz.ntmps119
 go_upto_region 1 with fail
 generalize w.alloc (.cells #[.int .i64 id, .int .i64 nte, .int .i64 vo, .int .i64 lb, .int .i64 lt, lv, .bool sl, sp, sc, sk, sb, sv, .int .i64 ro, vv, nv, mv, .int .i64 ncm, .bool ol, op, oc, ok, ob, ov] 50) = W at *
 have c1 := fun j => cell_of_cells (j := j) Y1.out
 have d1 := fun j => cell_of_cells (j := j) X1.out
 have f1 : ∀ j, W.frozen? ⟨B, j, none⟩ = false := fun j => frozen_of_cells X1.out
 have hne : w.heap.size ≠ B := by omega
 go_cut [] (fun wx => Hid (wx.heap[B]? = some (.cells #[.int .i64 5, .int .i64 id, .int .i64 ti, .int .i64 nte, .int .i64 lb, .int .i64 lt, .int .i64 0, .bool false, .slice none 0 0, .bool false, .slice none 0 0, .slice none 0 0, .slice none 0 0, .slice none 0 0, .slice none 0 0] 57 (0, 0))) ∧ Hid (wx.heap[w.heap.size]? = some (.cells #[.int .i64 id, .int .i64 nte, .int .i64 vo, .int .i64 lb, .int .i64 lt, lv, .bool sl, sp, sc, sk, sb, sv, .int .i64 ro, vv, nv, mv, .int .i64 ncm, .bool ol, op, oc, ok, ob, ov] 50 (0, 0))) ∧ Hid (Below w0.heap.size w0 wx) ∧ Hid (Chg (fun g => g = B) w wx))
 case first =>
  go_region
  go_wp2_with fail
  go_meet
  have g45 : Chg (fun g => g = B) W ((W.setCell ⟨B, 4, none⟩ (.int .i64 lb)).setCell ⟨B, 5, none⟩ (.int .i64 lt)) := ((Chg.refl (fun g => g = B) W).setAt B 4 rfl _).setAt B 5 rfl _
  have x45 : ((W.setCell ⟨B, 4, none⟩ (.int .i64 lb)).setCell ⟨B, 5, none⟩ (.int .i64 lt)).heap[B]? = some (.cells #[.int .i64 5, .int .i64 id, .int .i64 ti, .int .i64 nte, .int .i64 lb, .int .i64 lt, .int .i64 0, .bool false, .slice none 0 0, .bool false, .slice none 0 0, .slice none 0 0, .slice none 0 0, .slice none 0 0, .slice none 0 0] 57 (0, 0)) := by simpa using set_at 5 (.int .i64 lt) (set_at 4 (.int .i64 lb) X1.out)
  exact ⟨x45, row_chg (F := fun g => g = B) Y1.out g45.drew hne, (BB.out.trans (g45.below (fun g _ e => by omega) BB.out.size)).drew, (CH.out.trans g45 (fun _ _ e => e)).drew⟩
 case rest =>
  clear c1 d1 f1 X1 Y1 BB CH B1
  obtain ⟨X1, Y1, BB, CH⟩ := hcut
  have c1 := fun j => cell_of_cells (j := j) Y1.out
  have zc : Hid (w.heap.size ≤ wc.heap.size) := CH.out.size
  go_wp2_with fail
  refine (CM.out _ BB.out).mono ?_
  rintro e w3 ⟨z, rfl, oz, bz⟩
  obtain ⟨l2, x1, x2, x3, x4, x5, hz⟩ := oz.sl
  subst hz
  have Oz : Hid (MacI n w3 wc.heap.size w3.heap.size _ D.T1 D.d1) := MacI.made oz
  replace X1 := hid9 (step_at X1.out bz)
  replace CH := hid9 (CH.out.trans (Chg.of_below bz) (fun _ _ e => e))
  have z3 : Hid (wc.heap.size ≤ w3.heap.size) := bz.size
  clear oz bz c1 Y1 BB
  have d1 := fun j => cell_of_cells (j := j) X1.out
  have f1 : ∀ j, w3.frozen? ⟨B, j, none⟩ = false := fun j => frozen_of_cells X1.out
  have K7 : ((((((w3.setCell ⟨B, 9, none⟩ (.bool l2)).setCell ⟨B, 10, none⟩ (.slice x1.1 x1.2.1 x1.2.2)).setCell ⟨B, 11, none⟩ (.slice x2.1 x2.2.1 x2.2.2)).setCell ⟨B, 12, none⟩ (.slice x3.1 x3.2.1 x3.2.2)).setCell ⟨B, 13, none⟩ (.slice x4.1 x4.2.1 x4.2.2)).setCell ⟨B, 14, none⟩ (.slice x5.1 x5.2.1 x5.2.2)).heap[B]? = some (.cells #[.int .i64 5, .int .i64 id, .int .i64 ti, .int .i64 nte, .int .i64 lb, .int .i64 lt, .int .i64 0, .bool false, .slice none 0 0, .bool l2, .slice x1.1 x1.2.1 x1.2.2, .slice x2.1 x2.2.1 x2.2.2, .slice x3.1 x3.2.1 x3.2.2, .slice x4.1 x4.2.1 x4.2.2, .slice x5.1 x5.2.1 x5.2.2] 57 (0, 0)) := by simpa using set_at 14 (.slice x5.1 x5.2.1 x5.2.2) (set_at 13 (.slice x4.1 x4.2.1 x4.2.2) (set_at 12 (.slice x3.1 x3.2.1 x3.2.2) (set_at 11 (.slice x2.1 x2.2.1 x2.2.2) (set_at 10 (.slice x1.1 x1.2.1 x1.2.2) (set_at 9 (.bool l2) (X1.out))))))
  have g7 : Chg (fun g => g = B) w3 ((((((w3.setCell ⟨B, 9, none⟩ (.bool l2)).setCell ⟨B, 10, none⟩ (.slice x1.1 x1.2.1 x1.2.2)).setCell ⟨B, 11, none⟩ (.slice x2.1 x2.2.1 x2.2.2)).setCell ⟨B, 12, none⟩ (.slice x3.1 x3.2.1 x3.2.2)).setCell ⟨B, 13, none⟩ (.slice x4.1 x4.2.1 x4.2.2)).setCell ⟨B, 14, none⟩ (.slice x5.1 x5.2.1 x5.2.2)) := (((((((Chg.refl (fun g => g = B) w3).setAt B 9 rfl (.bool l2)).setAt B 10 rfl (.slice x1.1 x1.2.1 x1.2.2)).setAt B 11 rfl (.slice x2.1 x2.2.1 x2.2.2)).setAt B 12 rfl (.slice x3.1 x3.2.1 x3.2.2)).setAt B 13 rfl (.slice x4.1 x4.2.1 x4.2.2)).setAt B 14 rfl (.slice x5.1 x5.2.1 x5.2.2))
  have FIN : Hid (∃ K : RpcV, (rpSn ⟨id, nte, vo, lb, lt, lv, ⟨⟨sl, sp, sc, sk, sb⟩, sv⟩, ro, vv, nv, mv, ncm, ⟨⟨ol, op, oc, ok, ob⟩, ov⟩⟩ ti (.slice none 0 0) zM).like K ∧ ((((((w3.setCell ⟨B, 9, none⟩ (.bool l2)).setCell ⟨B, 10, none⟩ (.slice x1.1 x1.2.1 x1.2.2)).setCell ⟨B, 11, none⟩ (.slice x2.1 x2.2.1 x2.2.2)).setCell ⟨B, 12, none⟩ (.slice x3.1 x3.2.1 x3.2.2)).setCell ⟨B, 13, none⟩ (.slice x4.1 x4.2.1 x4.2.2)).setCell ⟨B, 14, none⟩ (.slice x5.1 x5.2.1 x5.2.2)).heap[B]? = some (.cells (rpcArr K) 57 (0, 0)) ∧ RpcDh n ((((((w3.setCell ⟨B, 9, none⟩ (.bool l2)).setCell ⟨B, 10, none⟩ (.slice x1.1 x1.2.1 x1.2.2)).setCell ⟨B, 11, none⟩ (.slice x2.1 x2.2.1 x2.2.2)).setCell ⟨B, 12, none⟩ (.slice x3.1 x3.2.1 x3.2.2)).setCell ⟨B, 13, none⟩ (.slice x4.1 x4.2.1 x4.2.2)).setCell ⟨B, 14, none⟩ (.slice x5.1 x5.2.1 x5.2.2)) w.heap.size ((((((w3.setCell ⟨B, 9, none⟩ (.bool l2)).setCell ⟨B, 10, none⟩ (.slice x1.1 x1.2.1 x1.2.2)).setCell ⟨B, 11, none⟩ (.slice x2.1 x2.2.1 x2.2.2)).setCell ⟨B, 12, none⟩ (.slice x3.1 x3.2.1 x3.2.2)).setCell ⟨B, 13, none⟩ (.slice x4.1 x4.2.1 x4.2.2)).setCell ⟨B, 14, none⟩ (.slice x5.1 x5.2.1 x5.2.2)).heap.size K ⟨[], D.T1, D.d1⟩ ∧ Chg (fun g => g = B) w ((((((w3.setCell ⟨B, 9, none⟩ (.bool l2)).setCell ⟨B, 10, none⟩ (.slice x1.1 x1.2.1 x1.2.2)).setCell ⟨B, 11, none⟩ (.slice x2.1 x2.2.1 x2.2.2)).setCell ⟨B, 12, none⟩ (.slice x3.1 x3.2.1 x3.2.2)).setCell ⟨B, 13, none⟩ (.slice x4.1 x4.2.1 x4.2.2)).setCell ⟨B, 14, none⟩ (.slice x5.1 x5.2.1 x5.2.2))) :=
   ⟨⟨5, id, ti, nte, lb, lt, 0, false, .slice none 0 0, ⟨⟨l2, .slice x1.1 x1.2.1 x1.2.2, .slice x2.1 x2.2.1 x2.2.2, .slice x3.1 x3.2.1 x3.2.2, .slice x4.1 x4.2.1 x4.2.2⟩, .slice x5.1 x5.2.1 x5.2.2⟩⟩, ⟨rfl, rfl, rfl, rfl, rfl, rfl, rfl, rfl⟩, K7,
    ⟨wc.heap.size, w3.heap.size, zc.out, z3.out, g7.size, Nat.le_refl _, ⟨OwnE.nil _ _ _ _, fun g hg => (wrB_none hg).elim⟩, Oz.out.but g7 (by have := zc.out; omega)⟩, CH.out.trans g7 (fun _ _ e => e)⟩
  clear K7 g7 Oz X1 CH
  go_wp2
  obtain ⟨K, FF⟩ := FIN.out
  exact bodyPost_end (v := .tuple #[]) (by simp [results, Tryz.results119, go_sem]) rfl ⟨rfl, K, FF⟩
end
end Go.Proofs.YtmdajbbpigbdcaaGreat
