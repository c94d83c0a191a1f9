/-
  The program's empty: a node in memory of its own, emptied through a pointer to it.
  TermAt of both sides, and where an entry stands (placeOf).
  Parts of a list of entries: a slice of it leads to a part of it.
  copy between slices whose elements have any number of cells: a law for the walk.
  The program's joined: parts of lists of entries laid one behind the other into memory of their own.
-/
import Derived.Test.YtmdajbbpigbdcaaGreatOfRise23
import Derived.Test.YtmdajbbpigbdcaaGreatOfRise18
import Derived.Test.YtmdajbbpigbdcaaGreatOfRise22
import Derived.Test.YtmdajbbpigbdcaaGreatOfRise8
import Derived.Test.YtmdajbbpigbdcaaGreatOfRise1
import Derived.Laws.CopyOwn
namespace Go.Proofs.YtmdajbbpigbdcaaGreat
set_option maxRecDepth 100000
set_option maxHeartbeats 8000000
section
open Go.RowKit

abbrev nodArr (N : NodV) : Array Value := #[.int .i64 N.id, .int .i64 N.te, .int .i64 N.vo, .int .i64 N.lb, .int .i64 N.lt, N.lv, .bool N.s.x.lf, N.s.x.p, N.s.x.c, N.s.x.k, N.s.x.b, N.s.v, .int .i64 N.ro, N.vv, N.nv, N.mv, .int .i64 N.cm, .bool N.o.x.lf, N.o.x.p, N.o.x.c, N.o.x.k, N.o.x.b, N.o.v]
def ones (j : Nat) (l : List Int) : List Int := List.replicate j 1 ++ l.drop j
theorem ones_zero (l : List Int) : ones 0 l = l := by simp [ones]
theorem ones_length (j : Nat) (l : List Int) (h : j ≤ l.length) : (ones j l).length = l.length := by simp [ones]; omega
theorem ones_full (l : List Int) : ones l.length l = List.replicate l.length 1 := by simp [ones]
theorem ones_step (j : Nat) (l : List Int) (h : j < l.length) : (ones j l).set j 1 = ones (j + 1) l := by
 rw [ones, ones, List.replicate_succ', List.drop_eq_getElem_cons h, List.set_append_right _ _ (by simp), List.length_replicate, Nat.sub_self, List.set_cons_zero]
 simp
theorem flatI_set1 (l : List Int) (j : Nat) : (flatI l).set j (.int .i64 1) = flatI (l.set j 1) := by simp [flatI]
theorem OwnI.own {w : World} {lo hi e size k : Nat} {v : Value} {xs : List Value} (h : OwnI w lo hi e size v k xs) (hk : 0 < k) : ∃ g cap, v = .slice (some ⟨g, 0, none⟩) k cap ∧ lo ≤ g ∧ g < hi ∧ w.ownsRow lo e size (.slice (some ⟨g, 0, none⟩) k cap) k xs := by
 obtain ⟨h0, h1⟩ := h
 rcases h0 with h0 | ⟨h0, _⟩
 ·have hh := h0
  obtain ⟨_, ⟨_, e2⟩ | ⟨g, cap, cur, e3, e4, e5, e6, _⟩⟩ := h0
  ·omega
  ·subst e3
   exact ⟨g, cap, rfl, e4, h1 g ⟨k, cap, rfl, by omega⟩, hh⟩
 ·omega

theorem empty_any (n : Nat) (N : NodV) (D : Nd) (lo c1 c2 c3 c4 c5 B : Nat) (w : World) (b1 : lo ≤ c1) (b2 : c1 ≤ c2) (b3 : c2 ≤ c3) (b4 : c3 ≤ c4) (b5 : c4 ≤ c5) (b6 : c5 ≤ B) (hB : w.heap[B]? = some (.cells (nodArr N) 50 (0, 0)))
  (o1 : OwnI w lo c1 113 6 N.lv D.l.length (flatE D.l)) (o2 : MacI n w c1 c2 N.s D.T1 D.d1) (o3 : OwnI w c2 c3 4 1 N.vv D.vs.length (flatL D.vs)) (o4 : OwnI w c3 c4 3 1 N.nv D.nx.length (flatI D.nx)) (o5 : OwnI w c4 c5 3 1 N.mv D.mt.length (flatI D.mt)) (hs : D.small n) :
  Calls Tryz.prog 31 #[.pointer (some ⟨B, 0, none⟩)] w fun e w' => e = .returned (.tuple #[]) ∧ ∃ m : MacV, w'.heap[B]? = some (.cells (nodArr ⟨N.id, N.te, N.vo, N.lb, N.lt, N.lv, N.s, 0, N.vv, N.nv, N.mv, N.lb, m⟩) 50 (0, 0)) ∧
   OwnI w' lo c1 113 6 N.lv D.l.length (flatE D.l) ∧ MacI n w' c1 c2 N.s D.T1 D.d1 ∧ OwnI w' c2 c3 4 1 N.vv D.vs.length (List.replicate D.vs.length (.bool false)) ∧ OwnI w' c3 c4 3 1 N.nv D.nx.length (flatI (List.replicate D.nx.length 1)) ∧ OwnI w' c4 c5 3 1 N.mv D.mt.length (List.replicate D.mt.length (.int .i64 0)) ∧ MacI n w' c5 w'.heap.size m D.T1 D.d1 ∧ Chg (fun g => lo ≤ g) w w' := by
 obtain ⟨id, te, vo, lb, lt, lv, ⟨⟨sl, sp, sc, sk, sb⟩, sv⟩, ro, vv, nv, mv, cm, ⟨⟨ol, op, oc, ok, ob⟩, ov⟩⟩ := N
 obtain ⟨hs1, hs2, hs3, hs4, hs5, hs6, hs7, hs8⟩ := hs
 obtain ⟨an, cn, hnv, hln⟩ := o4.row.len
 simp only at hnv hB o1 o2 o3 o4 o5
 subst hnv
 have hBl : B < w.heap.size := (Array.getElem?_eq_some_iff.1 hB).1
 have hB1 : (w.setCell ⟨B, 12, none⟩ (.int .i64 0)).heap[B]? = some (.cells #[.int .i64 id, .int .i64 te, .int .i64 vo, .int .i64 lb, .int .i64 lt, lv, .bool sl, sp, sc, sk, sb, sv, .int .i64 0, vv, .slice an D.nx.length cn, mv, .int .i64 cm, .bool ol, op, oc, ok, ob, ov] 50 (0, 0)) := by simpa using set_at 12 (.int .i64 0) hB
 have g1 : Chg (fun g => g = B) w (w.setCell ⟨B, 12, none⟩ (.int .i64 0)) := (Chg.refl (fun g => g = B) w).setAt B 12 rfl _
 obtain ⟨W2, hcl1, p3, g2⟩ := clear_own (P := Tryz.prog) 34 4 (.bool false) Tryz.underlying34 (fun _ => by kernel_rfl) rfl rfl _ (o3.chg g1 (fun g _ _ e => by omega))
 have hB2 := row_chg hB1 g2 (fun e => by omega)
 obtain ⟨W3, hcl2, p5, g3⟩ := clear_own (P := Tryz.prog) 26 3 (.int .i64 0) Tryz.underlying26 (fun _ => by kernel_rfl) rfl rfl W2 ((o5.chg g1 (fun g _ _ e => by omega)).chg g2 (fun g _ _ e => by omega))
 have hB3 := row_chg hB2 g3 (fun e => by omega)
 have p4 := ((o4.chg g1 (fun g _ _ e => by omega)).chg g2 (fun g _ _ e => by omega)).chg g3 (fun g _ _ e => by omega)
 have G03 : Hid (Chg (fun g => c2 ≤ g ∧ g < c5 ∨ g = B) w W3) := ((g1.mono (fun g _ e => Or.inr e)).trans g2 (fun g _ e => Or.inl ⟨by omega, by omega⟩)).trans g3 (fun g _ e => Or.inl ⟨by omega, by omega⟩)
 have O1 := hid9 o1
 have O2 := hid9 o2
 have P3 := hid9 p3
 have G23 := hid9 g3
 have P4 := hid9 p4
 have P5 := hid9 p5
 have HB3 := hid9 hB3
 have z0 : w.heap.size = (w.setCell ⟨B, 12, none⟩ (.int .i64 0)).heap.size := by simp
 have Z3 : Hid (w.heap.size ≤ W3.heap.size) := by have := g2.size; have := g3.size; show _ ≤ _; omega
 have ONE := hid9 (ones_step)
 have c0 := fun j => cell_of_cells (j := j) hB
 have f0 : ∀ j, w.frozen? ⟨B, j, none⟩ = false := fun j => frozen_of_cells hB
 have c2' := fun j => cell_of_cells (j := j) hB2
 have c3' := fun j => cell_of_cells (j := j) hB3
 have HN : Hid (D.nx.length ≤ 1048576) := hs5
 have NN : Hid (OwnI W3 c3 c4 3 1 (.slice an D.nx.length cn) D.nx.length (flatI (ones 0 D.nx))) := by show OwnI _ _ _ _ _ _ _ _; rw [ones_zero]; exact p4
 have NS : Hid (∀ j (u : World), j < D.nx.length → OwnI u c3 c4 3 1 (.slice an D.nx.length cn) D.nx.length (flatI (ones j D.nx)) → ∃ g, an = some ⟨g, 0, none⟩ ∧ c3 ≤ g ∧ g < c4 ∧ (∃ y : Int, u.cell? ⟨g, j, none⟩ = some (.int .i64 y)) ∧ u.frozen? ⟨g, j, none⟩ = false ∧ OwnI (u.setCell ⟨g, j, none⟩ (.int .i64 1)) c3 c4 3 1 (.slice an D.nx.length cn) D.nx.length (flatI (ones (j + 1) D.nx))) := fun j u hj h => by
  obtain ⟨g, cap, e, e1, e2, ho⟩ := h.own (by omega)
  injection e with ea eb ec
  subst ea ec
  have hl : (ones j D.nx).length = D.nx.length := ones_length j _ (by omega)
  refine ⟨g, rfl, e1, e2, ⟨(ones j D.nx)[j]'(by omega), ?_⟩, ho.frozenAt j, ⟨.inl ?_, h.2⟩⟩
  ·rw [ho.cellAt j (by omega)]
   simp [flatI, hl, hj]
  ·have := (ho.stored j (.int .i64 1)).1
   rw [flatI_set1, ones_step j _ hj] at this
   exact this
 have NE : Hid (∀ u, OwnI u c3 c4 3 1 (.slice an D.nx.length cn) D.nx.length (flatI (ones D.nx.length D.nx)) → OwnI u c3 c4 3 1 (.slice an D.nx.length cn) D.nx.length (flatI (List.replicate D.nx.length 1))) := fun u h => by rw [ones_full] at h; exact h
 clear o1 o2 o3 o4 o5 p3 p4 p5 g1 g2 g3 hB1 hB2 hB3 hB ONE
 unfold maxLen at hln
 generalize (fun j => flatI (ones j D.nx)) = FO at *
 generalize hnn : D.nx.length = nN at *
 change Hid _ at hnn
 go_enter Tryz.func31, Tryz.ntmps31
 go_wp2
 go_loopw [19] (fun i wr => ∃ j : Nat, j ≤ nN ∧ i = .int .i64 j ∧ Hid (OwnI wr c3 c4 3 1 (.slice an nN cn) nN (flatI (ones j D.nx))) ∧ Hid (Chg (fun g => c3 ≤ g ∧ g < c4) W3 wr))
  (fun i _ => nN - (intOf i).toNat)
 case atStart => exact ⟨0, Nat.zero_le _, rfl, NN.out, Chg.refl _ _⟩
 case round =>
  clear c0 f0 c2' c3' NN
  obtain ⟨j, hj, rfl, OW, GW⟩ := hrel
  have KB := hid9 (row_chg HB3.out GW.out (fun e => by omega))
  have c4' := fun j => cell_of_cells (j := j) KB.out
  by_cases hlt : j < nN
  ·obtain ⟨g, rfl, e1, e2, ⟨y, d0⟩, f1, OW2⟩ := NS.out j wr hlt OW.out
   have OW3 := hid9 OW2
   have GW2 := hid9 (GW.out.setAt g j ⟨e1, e2⟩ (.int .i64 1))
   clear OW2
   have hk0 : (0 : Int) ≤ (j : Int) := by omega
   have hk1 : (j : Int) < (nN : Int) := by omega
   go_wp2
   go_roundw
   case rel => exact ⟨j + 1, by omega, by go_num, OW3.out, GW2.out⟩
   case measure => simp [intOf]; omega
  ·have hjn : j = nN := by omega
   subst hjn
   replace OW := hid9 (NE.out _ OW.out)
   have f4 : ∀ j, wr.frozen? ⟨B, j, none⟩ = false := fun j => frozen_of_cells KB.out
   have K5 : (wr.setCell ⟨B, 16, none⟩ (.int .i64 lb)).heap[B]? = some (.cells #[.int .i64 id, .int .i64 te, .int .i64 vo, .int .i64 lb, .int .i64 lt, lv, .bool sl, sp, sc, sk, sb, sv, .int .i64 0, vv, .slice an j cn, mv, .int .i64 lb, .bool ol, op, oc, ok, ob, ov] 50 (0, 0)) := by simpa using set_at 16 (.int .i64 lb) KB.out
   have g5 : Chg (fun g => g = B) wr (wr.setCell ⟨B, 16, none⟩ (.int .i64 lb)) := (Chg.refl (fun g => g = B) wr).setAt B 16 rfl _
   have G05 : Hid (Chg (fun g => c2 ≤ g ∧ g < c5 ∨ g = B) w (wr.setCell ⟨B, 16, none⟩ (.int .i64 lb))) := (G03.out.trans GW.out (fun g _ e => Or.inl ⟨by omega, by omega⟩)).trans g5 (fun g _ e => Or.inr e)
   have G25 : Hid (Chg (fun g => c3 ≤ g ∧ g < c5 ∨ g = B) W2 (wr.setCell ⟨B, 16, none⟩ (.int .i64 lb))) := ((G23.out.mono (fun g _ e => Or.inl ⟨by omega, by omega⟩)).trans GW.out (fun g _ e => Or.inl ⟨by omega, by omega⟩)).trans g5 (fun g _ e => Or.inr e)
   have G35 : Hid (Chg (fun g => c3 ≤ g ∧ g < c4 ∨ g = B) W3 (wr.setCell ⟨B, 16, none⟩ (.int .i64 lb))) := (GW.out.mono (fun g _ e => Or.inl e)).trans g5 (fun g _ e => Or.inr e)
   have OW5 := hid9 (OW.out.chg g5 (fun g _ _ e => by omega))
   have o2 := O2.out.chg G05.out (fun g _ _ e => by omega)
   have CM := hid9 (copyOfMachine_any true n ⟨⟨sl, sp, sc, sk, sb⟩, sv⟩ D.T1 D.d1 _ _ o2.src (MacD.at o2).2 hs2 (fun e => by cases e) hs3)
   have O25 := hid9 o2
   have c5' := fun j => cell_of_cells (j := j) K5
   have f5 : ∀ j, (wr.setCell ⟨B, 16, none⟩ (.int .i64 lb)).frozen? ⟨B, j, none⟩ = false := fun j => frozen_of_cells K5
   have HK5 := hid9 K5
   have HZ5 : Hid ((wr.setCell ⟨B, 16, none⟩ (.int .i64 lb)).heap.size = wr.heap.size) := by show _ = _; simp
   have HZW : Hid (W3.heap.size ≤ wr.heap.size) := GW.out.size
   clear o2 K5 g5
   go_upto_region 9 with fail
   generalize (wr.setCell ⟨B, 16, none⟩ (.int .i64 lb)) = V5 at *
   clear c4' f4
   simp only [MacV.val] at CM
   go_wp2_with fail
   refine CM.out.mono ?_
   rintro e w6 ⟨m, rfl, om, b6'⟩
   obtain ⟨l1, x1, x2, x3, x4, x5, hm⟩ := om.sl
   subst hm
   have K6 := step_at HK5.out b6'
   have c6' := fun j => cell_of_cells (j := j) K6
   have f6 : ∀ j, w6.frozen? ⟨B, j, none⟩ = false := fun j => frozen_of_cells K6
   have K7 : ((((((w6.setCell ⟨B, 17, none⟩ (.bool l1)).setCell ⟨B, 18, none⟩ (.slice x1.1 x1.2.1 x1.2.2)).setCell ⟨B, 19, none⟩ (.slice x2.1 x2.2.1 x2.2.2)).setCell ⟨B, 20, none⟩ (.slice x3.1 x3.2.1 x3.2.2)).setCell ⟨B, 21, none⟩ (.slice x4.1 x4.2.1 x4.2.2)).setCell ⟨B, 22, none⟩ (.slice x5.1 x5.2.1 x5.2.2)).heap[B]? = some (.cells #[.int .i64 id, .int .i64 te, .int .i64 vo, .int .i64 lb, .int .i64 lt, lv, .bool sl, sp, sc, sk, sb, sv, .int .i64 0, vv, .slice an j cn, mv, .int .i64 lb, .bool l1, .slice x1.1 x1.2.1 x1.2.2, .slice x2.1 x2.2.1 x2.2.2, .slice x3.1 x3.2.1 x3.2.2, .slice x4.1 x4.2.1 x4.2.2, .slice x5.1 x5.2.1 x5.2.2] 50 (0, 0)) := by simpa using (set_at 22 (.slice x5.1 x5.2.1 x5.2.2) (set_at 21 (.slice x4.1 x4.2.1 x4.2.2) (set_at 20 (.slice x3.1 x3.2.1 x3.2.2) (set_at 19 (.slice x2.1 x2.2.1 x2.2.2) (set_at 18 (.slice x1.1 x1.2.1 x1.2.2) (set_at 17 (.bool l1) K6))))))
   have g7 : Chg (fun g => g = B) w6 ((((((w6.setCell ⟨B, 17, none⟩ (.bool l1)).setCell ⟨B, 18, none⟩ (.slice x1.1 x1.2.1 x1.2.2)).setCell ⟨B, 19, none⟩ (.slice x2.1 x2.2.1 x2.2.2)).setCell ⟨B, 20, none⟩ (.slice x3.1 x3.2.1 x3.2.2)).setCell ⟨B, 21, none⟩ (.slice x4.1 x4.2.1 x4.2.2)).setCell ⟨B, 22, none⟩ (.slice x5.1 x5.2.1 x5.2.2)) := (((((((Chg.refl (fun g => g = B) w6).setAt B 17 rfl (.bool l1)).setAt B 18 rfl (.slice x1.1 x1.2.1 x1.2.2)).setAt B 19 rfl (.slice x2.1 x2.2.1 x2.2.2)).setAt B 20 rfl (.slice x3.1 x3.2.1 x3.2.2)).setAt B 21 rfl (.slice x4.1 x4.2.1 x4.2.2)).setAt B 22 rfl (.slice x5.1 x5.2.1 x5.2.2))
   have g6 : Chg (fun _ => False) V5 w6 := Chg.of_below b6'
   have hz := HZ5.out
   have hzw := HZW.out
   have hz3 := Z3.out
   have hz6 := b6'.size
   have hz7 := g7.size
   have FIN : Hid (∃ m : MacV, ((((((w6.setCell ⟨B, 17, none⟩ (.bool l1)).setCell ⟨B, 18, none⟩ (.slice x1.1 x1.2.1 x1.2.2)).setCell ⟨B, 19, none⟩ (.slice x2.1 x2.2.1 x2.2.2)).setCell ⟨B, 20, none⟩ (.slice x3.1 x3.2.1 x3.2.2)).setCell ⟨B, 21, none⟩ (.slice x4.1 x4.2.1 x4.2.2)).setCell ⟨B, 22, none⟩ (.slice x5.1 x5.2.1 x5.2.2)).heap[B]? = some (.cells (nodArr ⟨id, te, vo, lb, lt, lv, ⟨⟨sl, sp, sc, sk, sb⟩, sv⟩, 0, vv, .slice an j cn, mv, lb, m⟩) 50 (0, 0)) ∧
     OwnI ((((((w6.setCell ⟨B, 17, none⟩ (.bool l1)).setCell ⟨B, 18, none⟩ (.slice x1.1 x1.2.1 x1.2.2)).setCell ⟨B, 19, none⟩ (.slice x2.1 x2.2.1 x2.2.2)).setCell ⟨B, 20, none⟩ (.slice x3.1 x3.2.1 x3.2.2)).setCell ⟨B, 21, none⟩ (.slice x4.1 x4.2.1 x4.2.2)).setCell ⟨B, 22, none⟩ (.slice x5.1 x5.2.1 x5.2.2)) lo c1 113 6 lv D.l.length (flatE D.l) ∧ MacI n ((((((w6.setCell ⟨B, 17, none⟩ (.bool l1)).setCell ⟨B, 18, none⟩ (.slice x1.1 x1.2.1 x1.2.2)).setCell ⟨B, 19, none⟩ (.slice x2.1 x2.2.1 x2.2.2)).setCell ⟨B, 20, none⟩ (.slice x3.1 x3.2.1 x3.2.2)).setCell ⟨B, 21, none⟩ (.slice x4.1 x4.2.1 x4.2.2)).setCell ⟨B, 22, none⟩ (.slice x5.1 x5.2.1 x5.2.2)) c1 c2 ⟨⟨sl, sp, sc, sk, sb⟩, sv⟩ D.T1 D.d1 ∧ OwnI ((((((w6.setCell ⟨B, 17, none⟩ (.bool l1)).setCell ⟨B, 18, none⟩ (.slice x1.1 x1.2.1 x1.2.2)).setCell ⟨B, 19, none⟩ (.slice x2.1 x2.2.1 x2.2.2)).setCell ⟨B, 20, none⟩ (.slice x3.1 x3.2.1 x3.2.2)).setCell ⟨B, 21, none⟩ (.slice x4.1 x4.2.1 x4.2.2)).setCell ⟨B, 22, none⟩ (.slice x5.1 x5.2.1 x5.2.2)) c2 c3 4 1 vv D.vs.length (List.replicate D.vs.length (.bool false)) ∧ OwnI ((((((w6.setCell ⟨B, 17, none⟩ (.bool l1)).setCell ⟨B, 18, none⟩ (.slice x1.1 x1.2.1 x1.2.2)).setCell ⟨B, 19, none⟩ (.slice x2.1 x2.2.1 x2.2.2)).setCell ⟨B, 20, none⟩ (.slice x3.1 x3.2.1 x3.2.2)).setCell ⟨B, 21, none⟩ (.slice x4.1 x4.2.1 x4.2.2)).setCell ⟨B, 22, none⟩ (.slice x5.1 x5.2.1 x5.2.2)) c3 c4 3 1 (.slice an j cn) j (flatI (List.replicate j 1)) ∧ OwnI ((((((w6.setCell ⟨B, 17, none⟩ (.bool l1)).setCell ⟨B, 18, none⟩ (.slice x1.1 x1.2.1 x1.2.2)).setCell ⟨B, 19, none⟩ (.slice x2.1 x2.2.1 x2.2.2)).setCell ⟨B, 20, none⟩ (.slice x3.1 x3.2.1 x3.2.2)).setCell ⟨B, 21, none⟩ (.slice x4.1 x4.2.1 x4.2.2)).setCell ⟨B, 22, none⟩ (.slice x5.1 x5.2.1 x5.2.2)) c4 c5 3 1 mv D.mt.length (List.replicate D.mt.length (.int .i64 0)) ∧ MacI n ((((((w6.setCell ⟨B, 17, none⟩ (.bool l1)).setCell ⟨B, 18, none⟩ (.slice x1.1 x1.2.1 x1.2.2)).setCell ⟨B, 19, none⟩ (.slice x2.1 x2.2.1 x2.2.2)).setCell ⟨B, 20, none⟩ (.slice x3.1 x3.2.1 x3.2.2)).setCell ⟨B, 21, none⟩ (.slice x4.1 x4.2.1 x4.2.2)).setCell ⟨B, 22, none⟩ (.slice x5.1 x5.2.1 x5.2.2)) c5 ((((((w6.setCell ⟨B, 17, none⟩ (.bool l1)).setCell ⟨B, 18, none⟩ (.slice x1.1 x1.2.1 x1.2.2)).setCell ⟨B, 19, none⟩ (.slice x2.1 x2.2.1 x2.2.2)).setCell ⟨B, 20, none⟩ (.slice x3.1 x3.2.1 x3.2.2)).setCell ⟨B, 21, none⟩ (.slice x4.1 x4.2.1 x4.2.2)).setCell ⟨B, 22, none⟩ (.slice x5.1 x5.2.1 x5.2.2)).heap.size m D.T1 D.d1 ∧ Chg (fun g => lo ≤ g) w ((((((w6.setCell ⟨B, 17, none⟩ (.bool l1)).setCell ⟨B, 18, none⟩ (.slice x1.1 x1.2.1 x1.2.2)).setCell ⟨B, 19, none⟩ (.slice x2.1 x2.2.1 x2.2.2)).setCell ⟨B, 20, none⟩ (.slice x3.1 x3.2.1 x3.2.2)).setCell ⟨B, 21, none⟩ (.slice x4.1 x4.2.1 x4.2.2)).setCell ⟨B, 22, none⟩ (.slice x5.1 x5.2.1 x5.2.2))) :=
    ⟨⟨⟨l1, .slice x1.1 x1.2.1 x1.2.2, .slice x2.1 x2.2.1 x2.2.2, .slice x3.1 x3.2.1 x3.2.2, .slice x4.1 x4.2.1 x4.2.2⟩, .slice x5.1 x5.2.1 x5.2.2⟩, K7, ((O1.out.chg G05.out (fun g _ _ e => by omega)).chg g6 (fun _ _ _ e => e)).chg g7 (fun g _ _ e => by omega), (O25.out.chg g6 (fun _ _ _ e => e)).chg g7 (fun g _ _ e => by omega),
     ((P3.out.chg G25.out (fun g _ _ e => by omega)).chg g6 (fun _ _ _ e => e)).chg g7 (fun g _ _ e => by omega), (OW5.out.chg g6 (fun _ _ _ e => e)).chg g7 (fun g _ _ e => by omega),
     ((P5.out.chg G35.out (fun g _ _ e => by omega)).chg g6 (fun _ _ _ e => e)).chg g7 (fun g _ _ e => by omega), MacD.mono (MacI.made (om.chg g7 (fun g h e => by omega))) (fun g h => ⟨by omega, h.2⟩),
     ((G05.out.mono (fun g _ e => by omega)).trans g6 (fun _ _ e => e.elim)).trans g7 (fun g _ e => by omega)⟩
   clear K6 K7 g7 g6 om b6' CM c5' f5
   go_wp2
   obtain ⟨m, FF⟩ := FIN.out
   exact bodyPost_end (v := .tuple #[]) (by simp [results, Tryz.results31, go_sem]) rfl ⟨rfl, m, FF⟩
end
section
open Go.RowKit

def I64 (x : Int) : Prop := -9223372036854775808 ≤ x ∧ x ≤ 9223372036854775807
def placeB (b : Int) (l : EL) (i : Int) : Option Nat := if b < i ∧ i - b - 1 < l.length then some (i - b - 1).toNat else none
def termB (b bt : Int) (l : EL) (i : Int) : Int := if i = b then bt else match placeB b l i with | some n => eT l n | none => -1

abbrev placeLV (o : Option Nat) : Value := match o with | some n => .tuple #[.int .i64 (n : Int), .bool true] | none => .tuple #[.int .i64 0, .bool false]
end
section
open Go.RowKit

theorem ownE_apart {w : World} {base e size n : Nat} {v : Value} {xs : List Value} (h : OwnE w base e size v n xs) {B : Nat} {c : Array Value} {t : Nat} (hB : w.heap[B]? = some (.cells c t (0, 0))) (ht : t ≠ e) {g : Nat} (hg : wrB v g) : ¬ g = B := by
 rintro rfl
 obtain ⟨kk, cc, hkk, hc0⟩ := hg
 rcases h with h | ⟨h1, h2, g', h3⟩
 ·obtain ⟨_, ⟨e1, _⟩ | ⟨g2, cap2, cur, e1, _, e2, _⟩⟩ := h
  ·rw [hkk] at e1; simp at e1
  ·rw [hkk] at e1
   simp at e1
   obtain ⟨rfl, rfl, rfl⟩ := e1
   rw [hB] at e2
   simp at e2
   exact ht e2.2
 ·rw [hkk] at h3; simp at h3; omega
theorem room_rowE {n bytes : Nat} (h : n ≤ 8388608) (hb : bytes ≤ 256) : 0 + n ≤ maxLen ∧ (0 + n) * bytes ≤ 140737488355328 := by
 constructor
 ·unfold maxLen; omega
 ·calc (0 + n) * bytes ≤ 8388608 * 256 := Nat.mul_le_mul (by omega) hb
   _ ≤ 140737488355328 := by decide

def entsB (b : Int) (l : EL) (i : Int) : EL := match placeB b l i with | some n => l.drop n | none => []
end
section
open Go.RowKit

theorem run_copy_rowN {P : Program} (w : World) (dT sT ty elem : TypeId) (g o dLen dCap : Nat) (a : Addr) (sLen sCap : Nat) (cur : Array Value) (t : TypeId) (cs : List Value) (size m : Nat)
  (hu : P.underlying dT = some (.slice elem)) (hs : (P.info? elem).map (·.size) = some size)
  (hg : w.heap[g]? = some (.cells cur t (0, 0))) (hm : Nat.min sLen dLen = m) (hn : cs.length = m * size)
  (hsrc : ∀ j v, cs[j]? = some v → w.cell? (a.add j) = some v) (hfit : o + cs.length ≤ cur.size) (h1 : ∀ v ∈ cs, v.oneCell' = true) :
  (Builtin.copy_ #[dT, sT] ty #[.slice (some ⟨g, o, none⟩) dLen dCap, .slice (some a) sLen sCap]).run P w =
   .ok (goInt m) (w.setRow g (cur.toList.take o ++ cs ++ cur.toList.drop (o + cs.length)).toArray) := by
 have hl := run_loadCells_list (P := P) w a cs hsrc
 have hst := run_storeCells_at P g o t cs 0 cur w hg (by simpa using hfit) h1
 cases hq : P.info? elem with
 | none => simp [hq] at hs
 | some i =>
  have hi : i.size = size := by simpa [hq] using hs
  simp [Builtin.copy_, run_underlying hu, Builtin.lenOf, Builtin.firstCells, sizeOf, typeInfo, hq, hi, hm, ← hn, hl, hst]

theorem run_copy_noneN {P : Program} (w : World) (dT sT ty elem : TypeId) (d a : Option Addr) (dLen dCap sLen sCap : Nat) (hu : P.underlying dT = some (.slice elem)) (hs : ((P.info? elem).map (·.size)).isSome = true) (hn : Nat.min sLen dLen = 0) :
  (Builtin.copy_ #[dT, sT] ty #[.slice d dLen dCap, .slice a sLen sCap]).run P w = .ok (goInt 0) w := by
 cases hq : P.info? elem with
 | none => simp [hq] at hs
 | some i =>
  have hl : ∀ (x : Addr), (loadCells x 0).run P w = .ok #[] w := fun x => by simpa using run_loadCells_list (P := P) w x [] (by simp)
  cases d <;> cases a <;> simp [Builtin.copy_, run_underlying hu, Builtin.lenOf, Builtin.firstCells, sizeOf, typeInfo, hq, hn, storeCells, hl]

theorem wpList_copy_N {P : Program} {w : World} {ops : Array Oper} {rest : List Oper} {o : Oper} {a : Act} {Q : Exit → Act → World → Prop} (hgd : o.guard = none) (d s : Operand) (dT sT : TypeId)
  (ho : o.op = .call { callee := .builtin .copy, args := #[d, s], argTypes := #[dT, sT] }) (elem : TypeId) (size m : Nat) (hu : P.underlying dT = some (.slice elem)) (hsz : (P.info? elem).map (·.size) = some size)
  (dp sp : Option Addr) (dLen dCap sLen sCap : Nat) (hd : a.eval d = .slice dp dLen dCap) (hs : a.eval s = .slice sp sLen sCap)
  (g off : Nat) (cur : List Value) (t : TypeId) (hg : w.heap[g]? = some (.cells cur.toArray t (0, 0))) (cs : List Value) (hm : Nat.min sLen dLen = m) (hn : cs.length = m * size)
  (hpos : 0 < m → dp = some ⟨g, off, none⟩ ∧ ∃ ad, sp = some ad ∧ ∀ j v, cs[j]? = some v → w.cell? (ad.add j) = some v)
  (hfit : off + cs.length ≤ cur.length) (h1 : ∀ v ∈ cs, v.oneCell' = true) (B : Nat) (w0 : World) (hb : Below B w0 w) (hBg : B ≤ g)
  (h : ∀ w', Hid (w'.heap[g]? = some (.cells (splice cur off cs).toArray t (0, 0))) → Below B w0 w' → wpList P ops Q rest (a.put o.dst (goInt m)) w') :
  wpList P ops Q (o :: rest) a w := by
 refine wpList_plain hgd fun K hK => ?_
 by_cases h0 : m = 0
 ·subst h0
  obtain rfl : cs = [] := List.eq_nil_of_length_eq_zero (by omega)
  have hrun := run_copy_noneN (P := P) w dT sT o.type elem dp sp dLen dCap sLen sCap hu (by rw [hsz]; rfl) hm
  unfold Oper.wp
  simp [execOp, ho, resolve, invoke, builtin, hd, hs, hrun, Result.andThen]
  exact hK _ _ (h w (show _ = _ by simpa [splice] using hg) hb)
 ·obtain ⟨rfl, ad, rfl, hsrc⟩ := hpos (by omega)
  have hrun := run_copy_rowN (P := P) w dT sT o.type elem g off dLen dCap ad sLen sCap cur.toArray t cs size m hu hsz hg hm hn hsrc (by simpa using hfit) h1
  unfold Oper.wp
  simp [execOp, ho, resolve, invoke, builtin, hd, hs, hrun, Result.andThen]
  exact hK _ _ (h _ (show _ = _ by simpa [splice] using setRow_heap w g _ _ t _ hg) (below_setRow hb hBg _))
end
section
open Go.RowKit

abbrev PtL := List (Value × EL)
def ptV (ps : PtL) (j : Nat) : Value := (ps.getD j (.slice none 0 0, [])).1
def ptL (ps : PtL) (j : Nat) : EL := (ps.getD j (.slice none 0 0, [])).2
def joinP (ps : PtL) (j : Nat) : EL := ((ps.take j).map (·.2)).flatten
theorem joinP_zero (ps : PtL) : joinP ps 0 = [] := rfl
theorem joinP_succ (ps : PtL) (j : Nat) (h : j < ps.length) : joinP ps (j + 1) = joinP ps j ++ ptL ps j := by
 unfold joinP ptL
 rw [List.take_succ_eq_append_getElem h, List.map_append, List.flatten_append]
 congr 1
 simp [List.getD, h]
theorem joinP_len (ps : PtL) (j : Nat) (h : j < ps.length) : (joinP ps (j + 1)).length = (joinP ps j).length + (ptL ps j).length := by rw [joinP_succ ps j h, List.length_append]
theorem joinP_mono (ps : PtL) : ∀ k j, j + k ≤ ps.length → (joinP ps j).length ≤ (joinP ps (j + k)).length := by
 intro k
 induction k with
 | zero => intro j _; exact Nat.le_refl _
 | succ k ih =>
  intro j h
  have h1 := ih j (by omega)
  have h2 := joinP_len ps (j + k) (by omega)
  rw [show j + (k + 1) = j + k + 1 by omega]
  omega
theorem joinP_le (ps : PtL) (j : Nat) (h : j ≤ ps.length) : (joinP ps j).length ≤ (joinP ps ps.length).length := by
 have := joinP_mono ps (ps.length - j) j (by omega)
 rwa [show j + (ps.length - j) = ps.length by omega] at this
def laidP (ps : PtL) (j : Nat) : List Value := flatE (joinP ps j ++ List.replicate ((joinP ps ps.length).length - (joinP ps j).length) en0)
theorem laidP_length (ps : PtL) (j : Nat) (h : j ≤ ps.length) : (laidP ps j).length = (joinP ps ps.length).length * 6 := by
 unfold laidP; rw [flatE_length, List.length_append, List.length_replicate]; have := joinP_le ps j h; omega
theorem laidP_full (ps : PtL) : laidP ps ps.length = flatE (joinP ps ps.length) := by unfold laidP; simp
theorem laidP_step (ps : PtL) (j : Nat) (h : j < ps.length) : splice (laidP ps j) ((joinP ps j).length * 6) (flatE (ptL ps j)) = laidP ps (j + 1) := by
 have hl := joinP_len ps j h
 have hle := joinP_le ps (j + 1) h
 unfold splice laidP
 obtain ⟨m, hm⟩ : ∃ m, (joinP ps ps.length).length - (joinP ps j).length = (ptL ps j).length + m := ⟨(joinP ps ps.length).length - (joinP ps j).length - (ptL ps j).length, by omega⟩
 rw [hm, show (joinP ps ps.length).length - (joinP ps (j + 1)).length = m by omega, joinP_succ ps j h]
 simp only [flatE_append, flatE_zero]
 rw [List.take_left' (by rw [flatE_length]), List.drop_append, List.drop_of_length_le (by rw [flatE_length]; omega), List.drop_replicate, flatE_length, flatE_length]
 simp only [List.nil_append, List.append_assoc]
 congr 3
 omega

theorem heap_of_full {w : World} {base e n : Nat} {g : Nat} {xs : List Value} (h : w.ownsRow base e 6 (.slice (some ⟨g, 0, none⟩) n n) n xs) : w.heap[g]? = some (.cells xs.toArray e (0, 0)) := by
 obtain ⟨hl, ⟨e1, _⟩ | ⟨g2, cap2, cur, e1, _, e2, h1, h2, h3, h4⟩⟩ := h
 ·simp at e1
 ·simp at e1
  obtain ⟨rfl, rfl⟩ := e1
  rw [e2]
  have : cur = xs.toArray := by
   apply Array.toList_inj.1
   rw [← h4]
   simp
   rw [List.take_of_length_le (by simp; omega)]
  rw [this]

theorem joined_any (pv : Value) (ps : PtL) (w : World) (h : Row w pv ps.length (ps.map (·.1))) (hall : ∀ j, j < ps.length → Row w (ptV ps j) (ptL ps j).length (flatE (ptL ps j))) (hs : (joinP ps ps.length).length ≤ 2097152) :
  Calls Tryz.prog 94 #[pv] w fun e w' => ∃ v', e = .returned v' ∧ w'.ownsRow w.heap.size 113 6 v' (joinP ps ps.length).length (flatE (joinP ps ps.length)) ∧ Below w.heap.size w w' := by
 obtain ⟨a, b, off, cap, rfl, hcap, hmax, ha, hx, -⟩ := h
 obtain ⟨i0, hi0, hz0, hz1, hz2⟩ := info_parts Tryz.info113
 unfold maxLen at hmax
 have HX : Hid (∀ j, j < ps.length → w.cell? ⟨b, off + j, none⟩ = some (ptV ps j)) := fun j hj => hx j _ (by simp [ptV, List.getD, hj])
 have HA : Hid (∀ j, j < ps.length → Row w (ptV ps j) (ptL ps j).length (flatE (ptL ps j))) := hall
 clear hx hall
 go_enter Tryz.func94, Tryz.ntmps94
 go_wp2
 go_loop [3, 12] (fun c i => ∃ j : Nat, j ≤ ps.length ∧ i = .int .i64 j ∧ c = .int .i64 ((joinP ps j).length : Nat)) (fun _ i => ps.length - (intOf i).toNat)
 case atStart => exact ⟨0, Nat.zero_le _, rfl, rfl⟩
 case round =>
  obtain ⟨j, hj, rfl, rfl⟩ := hrel
  by_cases hlt : j < ps.length
  ·have hal := ha (by omega)
   subst hal
   obtain ⟨aj, bj, oj, cj, hv, hc1, hc2, -⟩ := HA.out j hlt
   have d0 : w.cell? ⟨b, off + j, none⟩ = some (.slice aj (ptL ps j).length cj) := by rw [HX.out j hlt, hv]
   have hl := joinP_len ps j hlt
   have hle := joinP_le ps (j + 1) hlt
   have HL : Hid _ := hl
   have hb1 : (joinP ps j).length + (ptL ps j).length ≤ 2097152 := by omega
   clear hv hc1 hc2 hl hle
   generalize (joinP ps j).length = cj0 at *
   generalize (ptL ps j).length = lj at *
   go_wp2
   go_round
   case rel => exact ⟨j + 1, by omega, by go_num, by rw [HL.out]; go_num⟩
   case measure => simp [intOf]; omega
  ·have hjl : j = ps.length := by omega
   subst hjl
   go_wp2_with (at_make; refine wpList_make_full _ rfl _ _ 38 rfl w.heap.size 113 i0 _ 6 Tryz.underlying38 hi0 hz0 hz1 .i64 .i64 _ _ (joinP ps ps.length).length rfl rfl rfl rfl ?c1 ?c2 ?c3 ?_)
   case c1 => first | omega | (rw [hz2]; omega)
   case c2 => unfold maxLen; omega
   intro w0 hown0 hgrow0
   have hb0 : Below w.heap.size w w0 := (Below.refl _ _).grown hgrow0 (Nat.le_refl _) (fun k hk => by cases hk)
   have hh0 := heap_of_full hown0
   rw [show (madeCells _ ((joinP ps ps.length).length * 6)).toList = flatE (List.replicate (joinP ps ps.length).length en0) from madeCells_ent _] at hh0
   have HS : Hid (w0.heap[w.heap.size]? = some (.cells (laidP ps 0).toArray 113 (0, 0)) ∧ Below w.heap.size w w0) := ⟨by unfold laidP; rw [joinP_zero]; simpa using hh0, hb0⟩
   clear hgrow0 hown0 hb0 hh0
   go_wp2
   go_loopw [7, 25] (fun c i wr => ∃ j : Nat, j ≤ ps.length ∧ i = .int .i64 j ∧ c = .int .i64 ((joinP ps j).length : Nat) ∧ Hid (wr.heap[w.heap.size]? = some (.cells (laidP ps j).toArray 113 (0, 0))) ∧ Hid (Below w.heap.size w wr))
    (fun _ i _ => ps.length - (intOf i).toNat)
   case atStart => exact ⟨0, Nat.zero_le _, rfl, rfl, HS.out.1, HS.out.2⟩
   case round =>
    obtain ⟨j, hj, rfl, rfl, HC, HB⟩ := hrel
    clear HS
    by_cases hlt : j < ps.length
    ·have hal := ha (by omega)
     subst hal
     obtain ⟨aj, bj, oj, cj, hv, hc1, hc2, haj, hxj, -⟩ := HA.out j hlt
     have d0 : wr.cell? ⟨b, off + j, none⟩ = some (.slice aj (ptL ps j).length cj) := by rw [HB.out.cell (by exact cell_lt (HX.out j hlt)), HX.out j hlt, hv]
     have hl := joinP_len ps j hlt
     have hle := joinP_le ps (j + 1) hlt
     have HL : Hid _ := hl
     have HJ : Hid _ := And.intro haj hxj
     have hb1 : (joinP ps j).length + (ptL ps j).length ≤ (joinP ps ps.length).length := by omega
     clear hv hc1 hc2 hl hle haj hxj
     generalize hn0 : (joinP ps j).length = n0 at *
     generalize hn1 : (ptL ps j).length = n1 at *
     generalize hn2 : (joinP ps ps.length).length = n2 at *
     have HN : Hid _ := And.intro hn0 (And.intro hn1 hn2)
     clear hn0 hn1 hn2
     have hsz : (Tryz.prog.info? 113).map (·.size) = some 6 := by rw [hi0]; simp [hz1]
     have hcl : Hid ((flatE (ptL ps j)).length = n1 * 6) := by show _ = _; rw [flatE_length, HN.out.2.1]
     have hll : Hid ((laidP ps j).length = n2 * 6) := by show _ = _; rw [laidP_length ps j (by omega), HN.out.2.2]
     have hstep : Hid (splice (laidP ps j) (n0 * 6) (flatE (ptL ps j)) = laidP ps (j + 1)) := by show _ = _; have := laidP_step ps j hlt; rw [HN.out.1] at this; exact this
     have hsrc : Hid (0 < n1 → ∃ ad, aj = some ad ∧ ∀ k v, (flatE (ptL ps j))[k]? = some v → wr.cell? (ad.add k) = some v) := fun h0 => by
      refine ⟨⟨bj, oj, none⟩, HJ.out.1 h0, fun k v hk => ?_⟩
      have h1 := HJ.out.2 k v hk
      rw [show (Addr.add ⟨bj, oj, none⟩ k) = ⟨bj, oj + k, none⟩ by simp [Addr.add]]
      rw [HB.out.cell (by exact cell_lt h1)]
      exact h1
     by_cases hq : n2 = n0
     ·subst hq
      have hn1 : n1 = 0 := by omega
      subst hn1
      go_wp2_with (refine wpList_copy_N rfl _ _ 38 38 rfl 113 6 0 Tryz.underlying38 hsz (some ⟨w.heap.size, 0, none⟩) aj 0 0 0 cj rfl rfl w.heap.size (n2 * 6) (laidP ps j) 113 HC.out (flatE (ptL ps j)) rfl hcl.out (fun h => absurd h (Nat.lt_irrefl _)) (by rw [hcl.out, hll.out]; omega) (flatE_one _) w.heap.size w HB.out (Nat.le_refl _) ?_)
      intro w2 HG HB2
      have HG2 : Hid (w2.heap[w.heap.size]? = some (.cells (laidP ps (j + 1)).toArray 113 (0, 0))) := by have := HG.out; rw [hstep.out] at this; exact this
      have HB3 : Hid _ := HB2
      clear HG HB2
      go_wp2
      go_roundw
      case rel => exact ⟨j + 1, by omega, by go_num, by rw [HL.out]; go_num, HG2.out, HB3.out⟩
      case measure => simp [intOf]; omega
     ·have hmin : Nat.min n1 (n2 - n0) = n1 := Nat.min_eq_left (by omega)
      have HM : Hid _ := hmin
      clear hmin
      go_wp2_with (refine wpList_copy_N rfl _ _ 38 38 rfl 113 6 n1 Tryz.underlying38 hsz (some ⟨w.heap.size, n0 * 6, none⟩) aj (n2 - n0) (n2 - n0) n1 cj rfl rfl w.heap.size (n0 * 6) (laidP ps j) 113 HC.out (flatE (ptL ps j)) HM.out hcl.out (fun h => ⟨rfl, hsrc.out h⟩) (by rw [hcl.out, hll.out]; omega) (flatE_one _) w.heap.size w HB.out (Nat.le_refl _) ?_)
      intro w2 HG HB2
      have HG2 : Hid (w2.heap[w.heap.size]? = some (.cells (laidP ps (j + 1)).toArray 113 (0, 0))) := by have := HG.out; rw [hstep.out] at this; exact this
      have HB3 : Hid _ := HB2
      clear HG HB2
      go_wp2
      go_roundw
      case rel => exact ⟨j + 1, by omega, by go_num, by rw [HL.out]; go_num, HG2.out, HB3.out⟩
      case measure => simp [intOf]; omega
    ·have hjl : j = ps.length := by omega
     subst hjl
     have FIN : Hid (wr.ownsRow w.heap.size 113 6 (.slice (some ⟨w.heap.size, 0, none⟩) (joinP ps ps.length).length (joinP ps ps.length).length) (joinP ps ps.length).length (flatE (joinP ps ps.length)) ∧ Below w.heap.size w wr) := by
      refine ⟨⟨flatE_length _, .inr ⟨w.heap.size, _, _, rfl, Nat.le_refl _, HC.out, Nat.le_refl _, by unfold maxLen; omega, ?_, ?_⟩⟩, HB.out⟩
      ·simp [laidP_full, flatE_length]
      ·rw [laidP_full]; simp; rw [List.take_of_length_le (by rw [flatE_length]; omega)]
     clear HC HB HX HA
     go_wp2
     go_ret
     exact ⟨_, rfl, FIN.out⟩
end
end Go.Proofs.YtmdajbbpigbdcaaGreat
