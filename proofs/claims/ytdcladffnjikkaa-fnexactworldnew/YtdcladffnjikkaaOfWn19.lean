/-
  empty where a node's lists lie in blocks of their own in any order.
  MachineOk of the program.
  LogOk of the program.
  The program's NodeOk.
  The program's NodeOk: the role.
  The program's NodeOk, whole.
  The walk of the law FnExactNodeOk, over the program's contract.
-/
import Derived.Test.YtdcladffnjikkaaOfWn18
import Derived.Test.YtdcladffnjikkaaOfWn17
import Derived.Test.YtdcladffnjikkaaOfWn3
import Derived.Test.YtdcladffnjikkaaOfWn6
import Derived.Test.YtdcladffnjikkaaOfWn16
import Derived.Test.YtdcladffnjikkaaOfWn4
import Derived.Laws.EntriesVeiled
import Derived.Deep.MidRow
import Derived.Test.YtdcladffnjikkaaOfWn11
import Derived.Deep.RegionHeld3
namespace Go.Proofs.Ytdcladffnjikkaa
set_option maxRecDepth 100000
set_option maxHeartbeats 8000000
section
open Go.RowKit

theorem empty_u (n : Nat) (N : NodV) (D : Nd) (gV gN gM B : Nat) (w : World) (b1 : gV ≠ gN) (b2 : gV ≠ gM) (b3 : gN ≠ gM) (b4 : gV ≠ B) (b5 : gN ≠ B) (b6 : gM ≠ B) (hB : w.heap[B]? = some (.cells (nodArr N) 48 (0, 0)))
  (o1 : OwnI w 0 0 101 6 N.lv D.l.length (flatE D.l)) (o2 : MacI n w 0 0 N.s D.T1 D.d1) (o3 : OwnI w gV (gV + 1) 4 1 N.vv D.vs.length (flatL D.vs)) (o4 : OwnI w gN (gN + 1) 3 1 N.nv D.nx.length (flatI D.nx)) (o5 : OwnI w gM (gM + 1) 3 1 N.mv D.mt.length (flatI D.mt)) (hs : D.small n) :
  Calls Try.prog 33 #[.pointer (some ⟨B, 0, none⟩)] w fun e w' => e = .returned (.tuple #[]) ∧ ∃ m : MacV, w'.heap[B]? = some (.cells (nodArr ⟨N.id, N.te, N.vo, N.lb, N.lt, N.lv, N.s, 0, N.vv, N.nv, N.mv, N.lb, m⟩) 48 (0, 0)) ∧
   OwnI w' 0 0 101 6 N.lv D.l.length (flatE D.l) ∧ MacI n w' 0 0 N.s D.T1 D.d1 ∧ OwnI w' gV (gV + 1) 4 1 N.vv D.vs.length (List.replicate D.vs.length (.bool false)) ∧ OwnI w' gN (gN + 1) 3 1 N.nv D.nx.length (flatI (List.replicate D.nx.length 1)) ∧ OwnI w' gM (gM + 1) 3 1 N.mv D.mt.length (List.replicate D.mt.length (.int .i64 0)) ∧ MacI n w' w.heap.size w'.heap.size m D.T1 D.d1 ∧ Chg (fun g => g = gV ∨ g = gN ∨ g = gM ∨ g = B) w w' := by
 obtain ⟨id, te, vo, lb, lt, lv, ⟨⟨sl, sp, sc, sk, sb⟩, sv⟩, ro, vv, nv, mv, cm, ⟨⟨ol, op, oc, ok, ob⟩, ov⟩⟩ := N
 obtain ⟨hs1, hs2, hs3, hs4, hs5, hs6, hs7, hs8⟩ := hs
 obtain ⟨an, cn, hnv, hln⟩ := o4.row.len
 simp only at hnv hB o1 o2 o3 o4 o5
 subst hnv
 have hBl : B < w.heap.size := (Array.getElem?_eq_some_iff.1 hB).1
 have hB1 : (w.setCell ⟨B, 12, none⟩ (.int .i64 0)).heap[B]? = some (.cells #[.int .i64 id, .int .i64 te, .int .i64 vo, .int .i64 lb, .int .i64 lt, lv, .bool sl, sp, sc, sk, sb, sv, .int .i64 0, vv, .slice an D.nx.length cn, mv, .int .i64 cm, .bool ol, op, oc, ok, ob, ov] 48 (0, 0)) := by simpa using set_at 12 (.int .i64 0) hB
 have g1 : Chg (fun g => g = B) w (w.setCell ⟨B, 12, none⟩ (.int .i64 0)) := (Chg.refl (fun g => g = B) w).setAt B 12 rfl _
 obtain ⟨W2, hcl1, p3, g2⟩ := clear_own (P := Try.prog) 46 4 (.bool false) Try.underlying46 (fun _ => by kernel_rfl) rfl rfl _ (o3.chg g1 (fun g _ _ e => by omega))
 have hB2 := row_chg hB1 g2 (fun e => by omega)
 obtain ⟨W3, hcl2, p5, g3⟩ := clear_own (P := Try.prog) 39 3 (.int .i64 0) Try.underlying39 (fun _ => by kernel_rfl) rfl rfl W2 ((o5.chg g1 (fun g _ _ e => by omega)).chg g2 (fun g _ _ e => by omega))
 have hB3 := row_chg hB2 g3 (fun e => by omega)
 have p4 := ((o4.chg g1 (fun g _ _ e => by omega)).chg g2 (fun g _ _ e => by omega)).chg g3 (fun g _ _ e => by omega)
 have G03 : Hid (Chg (fun g => g = gV ∨ g = gN ∨ g = gM ∨ g = B) w W3) := ((g1.mono (fun g _ e => by omega)).trans g2 (fun g _ e => by omega)).trans g3 (fun g _ e => by omega)
 have O1 := hid9 o1
 have O2 := hid9 o2
 have P3 := hid9 p3
 have G23 := hid9 g3
 have P4 := hid9 p4
 have P5 := hid9 p5
 have HB3 := hid9 hB3
 have z0 : w.heap.size = (w.setCell ⟨B, 12, none⟩ (.int .i64 0)).heap.size := by simp
 have Z3 : Hid (w.heap.size ≤ W3.heap.size) := by have := g2.size; have := g3.size; show _ ≤ _; omega
 have ONE := hid9 (ones_step)
 have c0 := fun j => cell_of_cells (j := j) hB
 have f0 : ∀ j, w.frozen? ⟨B, j, none⟩ = false := fun j => frozen_of_cells hB
 have c2' := fun j => cell_of_cells (j := j) hB2
 have c3' := fun j => cell_of_cells (j := j) hB3
 have HN : Hid (D.nx.length ≤ 1048576) := hs5
 have NN : Hid (OwnI W3 gN (gN + 1) 3 1 (.slice an D.nx.length cn) D.nx.length (flatI (ones 0 D.nx))) := by show OwnI _ _ _ _ _ _ _ _; rw [ones_zero]; exact p4
 have NS : Hid (∀ j (u : World), j < D.nx.length → OwnI u gN (gN + 1) 3 1 (.slice an D.nx.length cn) D.nx.length (flatI (ones j D.nx)) → ∃ g, an = some ⟨g, 0, none⟩ ∧ gN ≤ g ∧ g < gN + 1 ∧ (∃ y : Int, u.cell? ⟨g, j, none⟩ = some (.int .i64 y)) ∧ u.frozen? ⟨g, j, none⟩ = false ∧ OwnI (u.setCell ⟨g, j, none⟩ (.int .i64 1)) gN (gN + 1) 3 1 (.slice an D.nx.length cn) D.nx.length (flatI (ones (j + 1) D.nx))) := fun j u hj h => by
  obtain ⟨g, cap, e, e1, e2, ho⟩ := h.own (by omega)
  injection e with ea eb ec
  subst ea ec
  have hl : (ones j D.nx).length = D.nx.length := ones_length j _ (by omega)
  refine ⟨g, rfl, e1, e2, ⟨(ones j D.nx)[j]'(by omega), ?_⟩, ho.frozenAt j, ⟨.inl ?_, h.2⟩⟩
  ·rw [ho.cellAt j (by omega)]
   simp [flatI, hl, hj]
  ·have := (ho.stored j (.int .i64 1)).1
   rw [flatI_set1, ones_step j _ hj] at this
   exact this
 have NE : Hid (∀ u, OwnI u gN (gN + 1) 3 1 (.slice an D.nx.length cn) D.nx.length (flatI (ones D.nx.length D.nx)) → OwnI u gN (gN + 1) 3 1 (.slice an D.nx.length cn) D.nx.length (flatI (List.replicate D.nx.length 1))) := fun u h => by rw [ones_full] at h; exact h
 clear o1 o2 o3 o4 o5 p3 p4 p5 g1 g2 g3 hB1 hB2 hB3 hB ONE
 unfold maxLen at hln
 generalize (fun j => flatI (ones j D.nx)) = FO at *
 generalize hnn : D.nx.length = nN at *
 change Hid _ at hnn
 go_enter Try.func33, Try.ntmps33
 go_wp2
 go_loopw [19] (fun i wr => ∃ j : Nat, j ≤ nN ∧ i = .int .i64 j ∧ Hid (OwnI wr gN (gN + 1) 3 1 (.slice an nN cn) nN (flatI (ones j D.nx))) ∧ Hid (Chg (fun g => gN ≤ g ∧ g < gN + 1) W3 wr))
  (fun i _ => nN - (intOf i).toNat)
 case atStart => exact ⟨0, Nat.zero_le _, rfl, NN.out, Chg.refl _ _⟩
 case round =>
  clear c0 f0 c2' c3' NN
  obtain ⟨j, hj, rfl, OW, GW⟩ := hrel
  have KB := hid9 (row_chg HB3.out GW.out (fun e => by omega))
  have c4' := fun j => cell_of_cells (j := j) KB.out
  by_cases hlt : j < nN
  ·obtain ⟨g, rfl, e1, e2, ⟨y, d0⟩, f1, OW2⟩ := NS.out j wr hlt OW.out
   have OW3 := hid9 OW2
   have GW2 := hid9 (GW.out.setAt g j ⟨e1, e2⟩ (.int .i64 1))
   clear OW2
   have hk0 : (0 : Int) ≤ (j : Int) := by omega
   have hk1 : (j : Int) < (nN : Int) := by omega
   go_wp2
   go_roundw
   case rel => exact ⟨j + 1, by omega, by go_num, OW3.out, GW2.out⟩
   case measure => simp [intOf]; omega
  ·have hjn : j = nN := by omega
   subst hjn
   replace OW := hid9 (NE.out _ OW.out)
   have f4 : ∀ j, wr.frozen? ⟨B, j, none⟩ = false := fun j => frozen_of_cells KB.out
   have K5 : (wr.setCell ⟨B, 16, none⟩ (.int .i64 lb)).heap[B]? = some (.cells #[.int .i64 id, .int .i64 te, .int .i64 vo, .int .i64 lb, .int .i64 lt, lv, .bool sl, sp, sc, sk, sb, sv, .int .i64 0, vv, .slice an j cn, mv, .int .i64 lb, .bool ol, op, oc, ok, ob, ov] 48 (0, 0)) := by simpa using set_at 16 (.int .i64 lb) KB.out
   have g5 : Chg (fun g => g = B) wr (wr.setCell ⟨B, 16, none⟩ (.int .i64 lb)) := (Chg.refl (fun g => g = B) wr).setAt B 16 rfl _
   have G05 : Hid (Chg (fun g => g = gV ∨ g = gN ∨ g = gM ∨ g = B) w (wr.setCell ⟨B, 16, none⟩ (.int .i64 lb))) := (G03.out.trans GW.out (fun g _ e => by omega)).trans g5 (fun g _ e => by omega)
   have G25 : Hid (Chg (fun g => g = gN ∨ g = gM ∨ g = B) W2 (wr.setCell ⟨B, 16, none⟩ (.int .i64 lb))) := ((G23.out.mono (fun g _ e => by omega)).trans GW.out (fun g _ e => by omega)).trans g5 (fun g _ e => by omega)
   have G35 : Hid (Chg (fun g => g = gN ∨ g = B) W3 (wr.setCell ⟨B, 16, none⟩ (.int .i64 lb))) := (GW.out.mono (fun g _ e => by omega)).trans g5 (fun g _ e => by omega)
   have OW5 := hid9 (OW.out.chg g5 (fun g _ _ e => by omega))
   have o2 := O2.out.chg G05.out (fun g _ _ e => by omega)
   have CM := hid9 (copyOfMachine_any true n ⟨⟨sl, sp, sc, sk, sb⟩, sv⟩ D.T1 D.d1 _ _ o2.src (MacD.at o2).2 hs2 (fun e => by cases e) hs3)
   have O25 := hid9 o2
   have c5' := fun j => cell_of_cells (j := j) K5
   have f5 : ∀ j, (wr.setCell ⟨B, 16, none⟩ (.int .i64 lb)).frozen? ⟨B, j, none⟩ = false := fun j => frozen_of_cells K5
   have HK5 := hid9 K5
   have HZ5 : Hid ((wr.setCell ⟨B, 16, none⟩ (.int .i64 lb)).heap.size = wr.heap.size) := by show _ = _; simp
   have HZW : Hid (W3.heap.size ≤ wr.heap.size) := GW.out.size
   clear o2 K5 g5
   go_upto_region 9 with fail
   generalize (wr.setCell ⟨B, 16, none⟩ (.int .i64 lb)) = V5 at *
   clear c4' f4
   simp only [MacV.val] at CM
   go_wp2_with fail
   refine CM.out.mono ?_
   rintro e w6 ⟨m, rfl, om, b6'⟩
   obtain ⟨l1, x1, x2, x3, x4, x5, hm⟩ := om.sl
   subst hm
   have K6 := step_at HK5.out b6'
   have c6' := fun j => cell_of_cells (j := j) K6
   have f6 : ∀ j, w6.frozen? ⟨B, j, none⟩ = false := fun j => frozen_of_cells K6
   have K7 : ((((((w6.setCell ⟨B, 17, none⟩ (.bool l1)).setCell ⟨B, 18, none⟩ (.slice x1.1 x1.2.1 x1.2.2)).setCell ⟨B, 19, none⟩ (.slice x2.1 x2.2.1 x2.2.2)).setCell ⟨B, 20, none⟩ (.slice x3.1 x3.2.1 x3.2.2)).setCell ⟨B, 21, none⟩ (.slice x4.1 x4.2.1 x4.2.2)).setCell ⟨B, 22, none⟩ (.slice x5.1 x5.2.1 x5.2.2)).heap[B]? = some (.cells #[.int .i64 id, .int .i64 te, .int .i64 vo, .int .i64 lb, .int .i64 lt, lv, .bool sl, sp, sc, sk, sb, sv, .int .i64 0, vv, .slice an j cn, mv, .int .i64 lb, .bool l1, .slice x1.1 x1.2.1 x1.2.2, .slice x2.1 x2.2.1 x2.2.2, .slice x3.1 x3.2.1 x3.2.2, .slice x4.1 x4.2.1 x4.2.2, .slice x5.1 x5.2.1 x5.2.2] 48 (0, 0)) := by simpa using (set_at 22 (.slice x5.1 x5.2.1 x5.2.2) (set_at 21 (.slice x4.1 x4.2.1 x4.2.2) (set_at 20 (.slice x3.1 x3.2.1 x3.2.2) (set_at 19 (.slice x2.1 x2.2.1 x2.2.2) (set_at 18 (.slice x1.1 x1.2.1 x1.2.2) (set_at 17 (.bool l1) K6))))))
   have g7 : Chg (fun g => g = B) w6 ((((((w6.setCell ⟨B, 17, none⟩ (.bool l1)).setCell ⟨B, 18, none⟩ (.slice x1.1 x1.2.1 x1.2.2)).setCell ⟨B, 19, none⟩ (.slice x2.1 x2.2.1 x2.2.2)).setCell ⟨B, 20, none⟩ (.slice x3.1 x3.2.1 x3.2.2)).setCell ⟨B, 21, none⟩ (.slice x4.1 x4.2.1 x4.2.2)).setCell ⟨B, 22, none⟩ (.slice x5.1 x5.2.1 x5.2.2)) := (((((((Chg.refl (fun g => g = B) w6).setAt B 17 rfl (.bool l1)).setAt B 18 rfl (.slice x1.1 x1.2.1 x1.2.2)).setAt B 19 rfl (.slice x2.1 x2.2.1 x2.2.2)).setAt B 20 rfl (.slice x3.1 x3.2.1 x3.2.2)).setAt B 21 rfl (.slice x4.1 x4.2.1 x4.2.2)).setAt B 22 rfl (.slice x5.1 x5.2.1 x5.2.2))
   have g6 : Chg (fun _ => False) V5 w6 := Chg.of_below b6'
   have hz := HZ5.out
   have hzw := HZW.out
   have hz3 := Z3.out
   have hz6 := b6'.size
   have hz7 := g7.size
   have FIN : Hid (∃ m : MacV, ((((((w6.setCell ⟨B, 17, none⟩ (.bool l1)).setCell ⟨B, 18, none⟩ (.slice x1.1 x1.2.1 x1.2.2)).setCell ⟨B, 19, none⟩ (.slice x2.1 x2.2.1 x2.2.2)).setCell ⟨B, 20, none⟩ (.slice x3.1 x3.2.1 x3.2.2)).setCell ⟨B, 21, none⟩ (.slice x4.1 x4.2.1 x4.2.2)).setCell ⟨B, 22, none⟩ (.slice x5.1 x5.2.1 x5.2.2)).heap[B]? = some (.cells (nodArr ⟨id, te, vo, lb, lt, lv, ⟨⟨sl, sp, sc, sk, sb⟩, sv⟩, 0, vv, .slice an j cn, mv, lb, m⟩) 48 (0, 0)) ∧
     OwnI ((((((w6.setCell ⟨B, 17, none⟩ (.bool l1)).setCell ⟨B, 18, none⟩ (.slice x1.1 x1.2.1 x1.2.2)).setCell ⟨B, 19, none⟩ (.slice x2.1 x2.2.1 x2.2.2)).setCell ⟨B, 20, none⟩ (.slice x3.1 x3.2.1 x3.2.2)).setCell ⟨B, 21, none⟩ (.slice x4.1 x4.2.1 x4.2.2)).setCell ⟨B, 22, none⟩ (.slice x5.1 x5.2.1 x5.2.2)) 0 0 101 6 lv D.l.length (flatE D.l) ∧ MacI n ((((((w6.setCell ⟨B, 17, none⟩ (.bool l1)).setCell ⟨B, 18, none⟩ (.slice x1.1 x1.2.1 x1.2.2)).setCell ⟨B, 19, none⟩ (.slice x2.1 x2.2.1 x2.2.2)).setCell ⟨B, 20, none⟩ (.slice x3.1 x3.2.1 x3.2.2)).setCell ⟨B, 21, none⟩ (.slice x4.1 x4.2.1 x4.2.2)).setCell ⟨B, 22, none⟩ (.slice x5.1 x5.2.1 x5.2.2)) 0 0 ⟨⟨sl, sp, sc, sk, sb⟩, sv⟩ D.T1 D.d1 ∧ OwnI ((((((w6.setCell ⟨B, 17, none⟩ (.bool l1)).setCell ⟨B, 18, none⟩ (.slice x1.1 x1.2.1 x1.2.2)).setCell ⟨B, 19, none⟩ (.slice x2.1 x2.2.1 x2.2.2)).setCell ⟨B, 20, none⟩ (.slice x3.1 x3.2.1 x3.2.2)).setCell ⟨B, 21, none⟩ (.slice x4.1 x4.2.1 x4.2.2)).setCell ⟨B, 22, none⟩ (.slice x5.1 x5.2.1 x5.2.2)) gV (gV + 1) 4 1 vv D.vs.length (List.replicate D.vs.length (.bool false)) ∧ OwnI ((((((w6.setCell ⟨B, 17, none⟩ (.bool l1)).setCell ⟨B, 18, none⟩ (.slice x1.1 x1.2.1 x1.2.2)).setCell ⟨B, 19, none⟩ (.slice x2.1 x2.2.1 x2.2.2)).setCell ⟨B, 20, none⟩ (.slice x3.1 x3.2.1 x3.2.2)).setCell ⟨B, 21, none⟩ (.slice x4.1 x4.2.1 x4.2.2)).setCell ⟨B, 22, none⟩ (.slice x5.1 x5.2.1 x5.2.2)) gN (gN + 1) 3 1 (.slice an j cn) j (flatI (List.replicate j 1)) ∧ OwnI ((((((w6.setCell ⟨B, 17, none⟩ (.bool l1)).setCell ⟨B, 18, none⟩ (.slice x1.1 x1.2.1 x1.2.2)).setCell ⟨B, 19, none⟩ (.slice x2.1 x2.2.1 x2.2.2)).setCell ⟨B, 20, none⟩ (.slice x3.1 x3.2.1 x3.2.2)).setCell ⟨B, 21, none⟩ (.slice x4.1 x4.2.1 x4.2.2)).setCell ⟨B, 22, none⟩ (.slice x5.1 x5.2.1 x5.2.2)) gM (gM + 1) 3 1 mv D.mt.length (List.replicate D.mt.length (.int .i64 0)) ∧ MacI n ((((((w6.setCell ⟨B, 17, none⟩ (.bool l1)).setCell ⟨B, 18, none⟩ (.slice x1.1 x1.2.1 x1.2.2)).setCell ⟨B, 19, none⟩ (.slice x2.1 x2.2.1 x2.2.2)).setCell ⟨B, 20, none⟩ (.slice x3.1 x3.2.1 x3.2.2)).setCell ⟨B, 21, none⟩ (.slice x4.1 x4.2.1 x4.2.2)).setCell ⟨B, 22, none⟩ (.slice x5.1 x5.2.1 x5.2.2)) w.heap.size ((((((w6.setCell ⟨B, 17, none⟩ (.bool l1)).setCell ⟨B, 18, none⟩ (.slice x1.1 x1.2.1 x1.2.2)).setCell ⟨B, 19, none⟩ (.slice x2.1 x2.2.1 x2.2.2)).setCell ⟨B, 20, none⟩ (.slice x3.1 x3.2.1 x3.2.2)).setCell ⟨B, 21, none⟩ (.slice x4.1 x4.2.1 x4.2.2)).setCell ⟨B, 22, none⟩ (.slice x5.1 x5.2.1 x5.2.2)).heap.size m D.T1 D.d1 ∧ Chg (fun g => g = gV ∨ g = gN ∨ g = gM ∨ g = B) w ((((((w6.setCell ⟨B, 17, none⟩ (.bool l1)).setCell ⟨B, 18, none⟩ (.slice x1.1 x1.2.1 x1.2.2)).setCell ⟨B, 19, none⟩ (.slice x2.1 x2.2.1 x2.2.2)).setCell ⟨B, 20, none⟩ (.slice x3.1 x3.2.1 x3.2.2)).setCell ⟨B, 21, none⟩ (.slice x4.1 x4.2.1 x4.2.2)).setCell ⟨B, 22, none⟩ (.slice x5.1 x5.2.1 x5.2.2))) :=
    ⟨⟨⟨l1, .slice x1.1 x1.2.1 x1.2.2, .slice x2.1 x2.2.1 x2.2.2, .slice x3.1 x3.2.1 x3.2.2, .slice x4.1 x4.2.1 x4.2.2⟩, .slice x5.1 x5.2.1 x5.2.2⟩, K7, ((O1.out.chg G05.out (fun g _ _ e => by omega)).chg g6 (fun _ _ _ e => e)).chg g7 (fun g _ _ e => by omega), (O25.out.chg g6 (fun _ _ _ e => e)).chg g7 (fun g _ _ e => by omega),
     ((P3.out.chg G25.out (fun g _ _ e => by omega)).chg g6 (fun _ _ _ e => e)).chg g7 (fun g _ _ e => by omega), (OW5.out.chg g6 (fun _ _ _ e => e)).chg g7 (fun g _ _ e => by omega),
     ((P5.out.chg G35.out (fun g _ _ e => by omega)).chg g6 (fun _ _ _ e => e)).chg g7 (fun g _ _ e => by omega), MacD.mono (MacI.made (om.chg g7 (fun g h e => by omega))) (fun g h => ⟨by omega, h.2⟩),
     ((G05.out.mono (fun g _ e => by omega)).trans g6 (fun _ _ e => e.elim)).trans g7 (fun g _ e => by omega)⟩
   clear K6 K7 g7 g6 om b6' CM c5' f5
   go_wp2
   obtain ⟨m, FF⟩ := FIN.out
   exact bodyPost_end (v := .tuple #[]) (by simp [results, Try.results33, go_sem]) rfl ⟨rfl, m, FF⟩
end
section
open Go.RowKit

def dokB (l : DL) (k : Nat) : Bool := inB (dC l k) 1 9 && (inB (dS l k) 1 100000 && inB (dV l k) (-1000000000) 1000000000)
end
section
open Go.RowKit
end
section
open Go.RowKit

theorem sizeOk_any (x : Int) (w : World) : Calls Try.prog 11 #[.int .i64 x] w fun e w' => e = .returned (.bool (inB x 1 5)) ∧ w' = w := by
 by_cases h1 : 1 ≤ x
 ·by_cases h2 : x ≤ 5
  ·have E : Hid (inB x 1 5 = true) := inB_true h1 h2
   go_enter Try.func11, Try.ntmps11
   go_wp2
   go_ret
   exact ⟨ret_bool E.out.symm, rfl⟩
  ·have E : Hid (inB x 1 5 = false) := inB_false2 h2
   go_enter Try.func11, Try.ntmps11
   go_wp2
   go_ret
   exact ⟨ret_bool E.out.symm, rfl⟩
 ·have E : Hid (inB x 1 5 = false) := inB_false1 h1
  go_enter Try.func11, Try.ntmps11
  go_wp2
  go_ret
  exact ⟨ret_bool E.out.symm, rfl⟩
theorem isOneOf_any (x y : Int) (w : World) : Calls Try.prog 31 #[.int .i64 x, .int .i64 y] w fun e w' => e = .returned (.bool (inB x 0 (y - 1))) ∧ w' = w := by
 by_cases h1 : 0 ≤ x
 ·by_cases h2 : x < y
  ·have E : Hid (inB x 0 (y - 1) = true) := inB_true h1 (by omega)
   go_enter Try.func31, Try.ntmps31
   go_wp2
   go_ret
   exact ⟨ret_bool E.out.symm, rfl⟩
  ·have E : Hid (inB x 0 (y - 1) = false) := inB_false2 (by omega)
   go_enter Try.func31, Try.ntmps31
   go_wp2
   go_ret
   exact ⟨ret_bool E.out.symm, rfl⟩
 ·have E : Hid (inB x 0 (y - 1) = false) := inB_false1 h1
  go_enter Try.func31, Try.ntmps31
  go_wp2
  go_ret
  exact ⟨ret_bool E.out.symm, rfl⟩
end
section
open Go.RowKit
end
section
open Go.RowKit
end
section
open Go.RowKit

theorem NodAt.cells {n : Nat} {w : World} {M : NodV} {D : Nd} (h : NodAt n w M D) : ∃ ms : List Value, M.val = .agg ms.toArray ∧ ms.length = 23 ∧ ms.toArray.all (·.oneCell') = true := by
 obtain ⟨id, te, vo, lb, lt, lv, ⟨⟨sl, sp, sc, sk, sb⟩, sv⟩, ro, vv, nv, mv, cm, ⟨⟨ol, op, oc, ok, ob⟩, ov⟩⟩ := M
 obtain ⟨q1, q2, q3, q4, q5, q6⟩ := h
 obtain ⟨x0, e0⟩ := q1.sl
 obtain ⟨x6, e6⟩ := q3.sl
 obtain ⟨x7, e7⟩ := q4.sl
 obtain ⟨x8, e8⟩ := q5.sl
 obtain ⟨b1, y1, y2, y3, y4, y5, e1⟩ := q2.sl
 obtain ⟨b2, z1, z2, z3, z4, z5, e2⟩ := q6.sl
 simp only [MacV.mk.injEq, TV.mk.injEq] at e0 e1 e2 e6 e7 e8
 obtain ⟨⟨f0, f1, f2, f3, f4⟩, f5⟩ := e1
 obtain ⟨⟨g0, g1, g2, g3, g4⟩, g5⟩ := e2
 subst e0 e6 e7 e8 f0 f1 f2 f3 f4 f5 g0 g1 g2 g3 g4 g5
 exact ⟨_, rfl, rfl, by simp [Value.oneCell']⟩
theorem NodV.like.both {N M M' : NodV} (h : N.like M) (h' : N.like M') : M.like M' := by
 obtain ⟨a1, a2, a3, a4, a5, a6, a7⟩ := h
 obtain ⟨b1, b2, b3, b4, b5, b6, b7⟩ := h'
 exact ⟨a1.symm.trans b1, a2.symm.trans b2, a3.symm.trans b3, a4.symm.trans b4, a5.symm.trans b5, a6.symm.trans b6, a7.symm.trans b7⟩
end
end Go.Proofs.Ytdcladffnjikkaa
