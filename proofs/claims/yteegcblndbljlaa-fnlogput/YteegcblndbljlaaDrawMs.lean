/-
  The model's drawing of messages, right ones and wrong ones.
-/
import Derived.Test.YteegcblndbljlaaDrawB
namespace Go.Proofs.Yteegcblndbljlaa
open Go.RowKit

theorem put3 {W : World} {R : Nat} {a b c : Value} (o k v : Value) (hR : W.heap[R]? = some (.cells #[a, b, c] 35 (0, 0))) :
    (((W.setCell ⟨R, 0, none⟩ o).setCell ⟨R, 1, none⟩ k).setCell ⟨R, 2, none⟩ v).heap[R]? = some (.cells #[o, k, v] 35 (0, 0)) := by
  have h1 := heap_setCell_same W R 0 _ 35 o hR
  have h2 := heap_setCell_same _ R 1 _ 35 k h1
  have h3 := heap_setCell_same _ R 2 _ 35 v h2
  rw [h3]; rfl
theorem set3 {W : World} {R : Nat} {a b c : Value} (v : Value) (hR : W.heap[R]? = some (.cells #[a, b, c] 35 (0, 0))) : (W.setCell ⟨R, 2, none⟩ v).heap[R]? = some (.cells #[a, b, v] 35 (0, 0)) := by
  rw [heap_setCell_same W R 2 _ 35 v hR]; rfl
theorem set32 {W : World} {R : Nat} {a b c : Value} (v : Value) (hR : W.heap[R]? = some (.cells #[a, b, c] 35 (0, 0))) : (W.setCell ⟨R, 1, none⟩ v).heap[R]? = some (.cells #[a, v, c] 35 (0, 0)) := by
  rw [heap_setCell_same W R 1 _ 35 v hR]; rfl
theorem set31 {W : World} {R : Nat} {a b c : Value} (v : Value) (hR : W.heap[R]? = some (.cells #[a, b, c] 35 (0, 0))) : (W.setCell ⟨R, 0, none⟩ v).heap[R]? = some (.cells #[v, b, c] 35 (0, 0)) := by
  rw [heap_setCell_same W R 0 _ 35 v hR]; rfl
theorem at3 {W : World} {R : Nat} {a b c : Value} (hR : W.heap[R]? = some (.cells #[a, b, c] 35 (0, 0))) :
    (W.cell? ⟨R, 0, none⟩ = some a ∧ W.cell? ⟨R, 1, none⟩ = some b ∧ W.cell? ⟨R, 2, none⟩ = some c) ∧ (W.frozen? ⟨R, 0, none⟩ = false ∧ W.frozen? ⟨R, 1, none⟩ = false ∧ W.frozen? ⟨R, 2, none⟩ = false) :=
  ⟨⟨by rw [cell_of_cells hR]; rfl, by rw [cell_of_cells hR]; rfl, by rw [cell_of_cells hR]; rfl⟩, frozen_of_cells hR, frozen_of_cells hR, frozen_of_cells hR⟩

/-- what stands behind a message that was built at M and is handed back in R -/
structure MsgEnd (w : World) (C R M : Nat) (o k v : Int) (W : World) : Prop where
  cur : Cur W C
  chg : Chg (fun g => g = C) w W
  hR : ∃ a b c, W.heap[R]? = some (.cells #[a, b, c] 35 (0, 0))
  hM : W.heap[M]? = some (.cells #[.int .i64 o, .int .i64 k, .int .i64 v] 35 (0, 0))
  rR : w.heap.size ≤ R
  rM : w.heap.size ≤ M
  ne : R ≠ M
  nC : C < w.heap.size

theorem MsgEnd.fin {w : World} {C R M : Nat} {o k v : Int} {W : World} (h : MsgEnd w C R M o k v W) :
    (Cur (((W.setCell ⟨R, 0, none⟩ (.int .i64 o)).setCell ⟨R, 1, none⟩ (.int .i64 k)).setCell ⟨R, 2, none⟩ (.int .i64 v)) C ∧
      Chg (fun g => g = C) w (((W.setCell ⟨R, 0, none⟩ (.int .i64 o)).setCell ⟨R, 1, none⟩ (.int .i64 k)).setCell ⟨R, 2, none⟩ (.int .i64 v))) ∧
    ((((W.setCell ⟨R, 0, none⟩ (.int .i64 o)).setCell ⟨R, 1, none⟩ (.int .i64 k)).setCell ⟨R, 2, none⟩ (.int .i64 v)).cell? ⟨R, 0, none⟩ = some (.int .i64 o) ∧
      (((W.setCell ⟨R, 0, none⟩ (.int .i64 o)).setCell ⟨R, 1, none⟩ (.int .i64 k)).setCell ⟨R, 2, none⟩ (.int .i64 v)).cell? ⟨R, 1, none⟩ = some (.int .i64 k) ∧
      (((W.setCell ⟨R, 0, none⟩ (.int .i64 o)).setCell ⟨R, 1, none⟩ (.int .i64 k)).setCell ⟨R, 2, none⟩ (.int .i64 v)).cell? ⟨R, 2, none⟩ = some (.int .i64 v)) := by
  obtain ⟨a, b, c, hR⟩ := h.hR
  have hp := put3 (.int .i64 o) (.int .i64 k) (.int .i64 v) hR
  have hcW : Chg (fun g => g = R) W (((W.setCell ⟨R, 0, none⟩ (.int .i64 o)).setCell ⟨R, 1, none⟩ (.int .i64 k)).setCell ⟨R, 2, none⟩ (.int .i64 v)) :=
    Chg.setAt (F := fun g => g = R) (Chg.setAt (F := fun g => g = R) (Chg.setAt (F := fun g => g = R) (Chg.refl _ _) _ _ rfl _) _ _ rfl _) _ _ rfl _
  refine ⟨⟨?_, ?_⟩, (at3 hp).1⟩
  · exact h.cur.chg hcW (fun g e => by have := h.rR; have := h.nC; omega)
  · exact (h.chg.trans hcW (fun g hg e => by have := h.rR; omega))

set_option maxRecDepth 100000 in
set_option maxHeartbeats 2000000 in
theorem l1DrawMsg_any (C : Nat) (w : World) (hc : Cur w C) :
    Calls Try.prog 68 #[.pointer (some ⟨C, 0, none⟩)] w fun e w' => ∃ o k v : Int, e = .returned (.agg #[.int .i64 o, .int .i64 k, .int .i64 v]) ∧ Cur w' C ∧ Chg (fun g => g = C) w w' := by
  have hCw := hc.lt
  have CU : Hid (Cur w C) := hc
  clear hc
  go_enter Try.func68, Try.ntmps68
  go_wp2_with fail
  have hs0 : (w.alloc (.cells #[.int .i64 0, .int .i64 0, .int .i64 0] 35)).heap.size = w.heap.size + 1 := by simp
  refine (l1PickInt_any C (w.heap.size + 1) [1, 1, 1, 2, 3, 3, 4] (by decide) (by decide) _ ((CU.out.alloc _).alloc _) (by rw [← hs0]; exact heap_alloc_new _ _) (by omega)).mono ?_
  rintro e w1 ⟨o, rfl, ho, c1, g1⟩
  have G1 : Chg (fun g => g = C) w w1 := (((Chg.refl _ _).alloc _).alloc _).trans g1 (fun _ _ e => e)
  have R1 : w1.heap[w.heap.size]? = some (.cells #[.int .i64 0, .int .i64 0, .int .i64 0] 35 (0, 0)) := by
    refine row_chg ?_ g1 (by omega)
    rw [Below.heap_alloc _ _ _ (by omega)]; exact heap_alloc_new _ _
  have F1 : Hid _ := And.intro c1 (And.intro G1 R1)
  clear c1 g1 G1 R1
  go_wp2_with fail
  refine (l1DrawKey_any C _ F1.out.1).mono ?_
  rintro e w2 ⟨k, rfl, hk0, hk9, c2, g2⟩
  have R2 := row_chg F1.out.2.2 g2 (by omega)
  have G2 := F1.out.2.1.trans g2 (fun _ _ e => e)
  have hsz : w.heap.size < w2.heap.size := (Array.getElem?_eq_some_iff.1 R2).1
  have F2 : Hid _ := And.intro c2 (And.intro G2 R2)
  clear c2 g2 G2 R2 F1
  have hcase : o = 1 ∨ o = 2 ∨ o = 3 ∨ o = 4 := by simp at ho; omega
  clear ho
  have E0 : Hid (MsgEnd w C w.heap.size w2.heap.size o k 0 (w2.alloc (.cells #[.int .i64 o, .int .i64 k, .int .i64 0] 35))) :=
    ⟨F2.out.1.alloc _, F2.out.2.1.alloc _, ⟨_, _, _, by rw [Below.heap_alloc _ _ _ hsz]; exact F2.out.2.2⟩, heap_alloc_new _ _, Nat.le_refl _, by omega, by omega, hCw⟩
  have body : ∀ (o' : Int), o' = o → (o' = 1 ∨ o' = 3) ∨ (o' = 2 ∨ o' = 4) := by intro o' h; omega
  rcases body o rfl with hcs | hcs
  · have q : (o == 1) = true ∨ ((o == 1) = false ∧ (o == 3) = true) := by rcases hcs with rfl | rfl <;> simp
    have M1 := E0.out.hM
    obtain ⟨⟨m0, m1, m2⟩, n0, n1, n2⟩ := at3 M1
    clear body hcase hcs M1
    rcases q with q | ⟨q, q3⟩
    all_goals
      go_wp2_with fail
      refine (l1Below_any C 99 _ E0.out.cur (by decide)).mono ?_
      rintro e w3 ⟨y, rfl, hy0, hy1, _, c3, g3⟩
      have R3 := row_chg E0.out.hR.choose_spec.choose_spec.choose_spec g3 (by omega)
      have M3 := row_chg E0.out.hM g3 (by omega)
      have hsz3 : w2.heap.size < w3.heap.size := (Array.getElem?_eq_some_iff.1 M3).1
      have G3 := E0.out.chg.trans g3 (fun _ _ e => e)
      have F3 : Hid _ := And.intro c3 (And.intro G3 (And.intro R3 M3))
      clear c3 g3 G3 R3 M3
      go_wp2_with fail
      refine (l1PickInt_any C w3.heap.size [1, -2, 5, 700, 1000000000, -1000000000, y] (by simp) (by simp) _ (F3.out.1.alloc _) (heap_alloc_new _ _) (by omega)).mono ?_
      rintro e w4 ⟨vv, rfl, _, c4, g4⟩
      have R4 := row_chg (show (w3.alloc (.cells ([1, -2, 5, 700, 1000000000, -1000000000, y].map (Value.int .i64)).toArray 3)).heap[w.heap.size]? = _ by rw [Below.heap_alloc _ _ _ (by omega)]; exact F3.out.2.2.1) g4 (by omega)
      have M4 := row_chg (show (w3.alloc (.cells ([1, -2, 5, 700, 1000000000, -1000000000, y].map (Value.int .i64)).toArray 3)).heap[w2.heap.size]? = _ by rw [Below.heap_alloc _ _ _ (by omega)]; exact F3.out.2.2.2) g4 (by omega)
      have G4 := (F3.out.2.1.alloc (.cells ([1, -2, 5, 700, 1000000000, -1000000000, y].map (Value.int .i64)).toArray 3)).trans g4 (fun _ _ e => e)
      obtain ⟨⟨a0, a1, a2⟩, b0, b1, b2⟩ := at3 M4
      have M5 := set3 (.int .i64 vv) M4
      have cM : Chg (fun g => g = w2.heap.size) w4 (w4.setCell ⟨w2.heap.size, 2, none⟩ (.int .i64 vv)) := Chg.setAt (F := fun g => g = w2.heap.size) (Chg.refl _ _) _ _ rfl _
      have E5 : MsgEnd w C w.heap.size w2.heap.size o k vv (w4.setCell ⟨w2.heap.size, 2, none⟩ (.int .i64 vv)) :=
        ⟨c4.chg cM (fun g e => by omega), G4.trans cM (fun g hg e => by omega), ⟨_, _, _, row_chg R4 cM (by omega)⟩, M5, Nat.le_refl _, by omega, by omega, hCw⟩
      obtain ⟨⟨x0, x1, x2⟩, z0, z1, z2⟩ := at3 M5
      obtain ⟨⟨r0, r1, r2⟩, t0, t1, t2⟩ := at3 (row_chg R4 cM (by omega))
      have FIN : Hid _ := E5.fin
      clear R4 M4 G4 M5 cM E5 c4 g4
      go_wp2
      obtain ⟨⟨k1, k2⟩, q0, q1, q2⟩ := FIN.out
      exact bodyPost_ret (v := .agg #[.int .i64 o, .int .i64 k, .int .i64 vv]) (by simp [results, Try.results68, go_sem, q0, q1, q2]) rfl ⟨o, k, vv, rfl, k1, k2⟩
  · have q1 : (o == 1) = false := by rcases hcs with rfl | rfl <;> simp
    have q3 : (o == 3) = false := by rcases hcs with rfl | rfl <;> simp
    have M1 := E0.out.hM
    obtain ⟨⟨m0, m1, m2⟩, n0, n1, n2⟩ := at3 M1
    obtain ⟨⟨r0, r1, r2⟩, t0, t1, t2⟩ := at3 F2.out.2.2
    have FIN0 := E0.out.fin
    rw [World.setCell_alloc_past _ _ _ _ hsz, World.setCell_alloc_past _ _ _ _ (by simpa using hsz), World.setCell_alloc_past _ _ _ _ (by simpa using hsz)] at FIN0
    have FIN : Hid _ := FIN0
    clear body hcase hcs M1 FIN0
    go_wp2
    obtain ⟨⟨k1, k2⟩, q0, q1, q2⟩ := FIN.out
    exact bodyPost_ret (v := .agg #[.int .i64 o, .int .i64 k, .int .i64 0]) (by simp [results, Try.results68, go_sem, q0, q1, q2]) rfl ⟨o, k, 0, rfl, k1, k2⟩


theorem MsgEnd.chgC {w : World} {C R M : Nat} {o k v : Int} {W W' : World} (h : MsgEnd w C R M o k v W) (hc : Cur W' C) (hg : Chg (fun g => g = C) W W') : MsgEnd w C R M o k v W' := by
  obtain ⟨a, b, c, hR⟩ := h.hR
  have h1 := h.nC; have h2 := h.rR; have h3 := h.rM
  exact ⟨hc, h.chg.trans hg (fun _ _ e => e), ⟨a, b, c, row_chg hR hg (by omega)⟩, row_chg h.hM hg (by omega), h.rR, h.rM, h.ne, h.nC⟩
theorem MsgEnd.alloc {w : World} {C R M : Nat} {o k v : Int} {W : World} (h : MsgEnd w C R M o k v W) (x : Obj) : MsgEnd w C R M o k v (W.alloc x) := by
  obtain ⟨a, b, c, hR⟩ := h.hR
  exact ⟨h.cur.alloc x, h.chg.alloc x, ⟨a, b, c, by rw [Below.heap_alloc _ _ _ (Array.getElem?_eq_some_iff.1 hR).1]; exact hR⟩, by rw [Below.heap_alloc _ _ _ (Array.getElem?_eq_some_iff.1 h.hM).1]; exact h.hM, h.rR, h.rM, h.ne, h.nC⟩
theorem MsgEnd.set {w : World} {C R M : Nat} {o k v o' k' v' : Int} {W : World} (h : MsgEnd w C R M o k v W) (j : Nat) (x : Value) (hx : (W.setCell ⟨M, j, none⟩ x).heap[M]? = some (.cells #[.int .i64 o', .int .i64 k', .int .i64 v'] 35 (0, 0))) : MsgEnd w C R M o' k' v' (W.setCell ⟨M, j, none⟩ x) := by
  obtain ⟨a, b, c, hR⟩ := h.hR
  have h1 := h.nC; have h2 := h.rR; have h3 := h.rM
  have cM : Chg (fun g => g = M) W (W.setCell ⟨M, j, none⟩ x) := Chg.setAt (F := fun g => g = M) (Chg.refl _ _) _ _ rfl _
  exact ⟨h.cur.chg cM (fun g e => by omega), h.chg.trans cM (fun g hg e => by omega), ⟨a, b, c, row_chg hR cM h.ne⟩, hx, h.rR, h.rM, h.ne, h.nC⟩

set_option maxRecDepth 100000 in
set_option maxHeartbeats 2000000 in
theorem l1DrawBad_any (C : Nat) (w : World) (hc : Cur w C) :
    Calls Try.prog 69 #[.pointer (some ⟨C, 0, none⟩)] w fun e w' => ∃ o k v : Int, e = .returned (.agg #[.int .i64 o, .int .i64 k, .int .i64 v]) ∧ Cur w' C ∧ Chg (fun g => g = C) w w' := by
  have hCw := hc.lt
  have CU : Hid (Cur w C) := hc
  clear hc
  go_enter Try.func69, Try.ntmps69
  go_wp2_with fail
  refine (l1DrawMsg_any C _ (CU.out.alloc _)).mono ?_
  rintro e w1 ⟨o, k, v, rfl, c1, g1⟩
  have R1 := row_chg (heap_alloc_new w (.cells #[.int .i64 0, .int .i64 0, .int .i64 0] 35)) g1 (by omega)
  have hsz : w.heap.size < w1.heap.size := (Array.getElem?_eq_some_iff.1 R1).1
  have E0 : Hid (MsgEnd w C w.heap.size w1.heap.size o k v (w1.alloc (.cells #[.int .i64 o, .int .i64 k, .int .i64 v] 35))) :=
    ⟨c1.alloc _, (((Chg.refl _ _).alloc _).trans g1 (fun _ _ e => e)).alloc _, ⟨_, _, _, by rw [Below.heap_alloc _ _ _ hsz]; exact R1⟩, heap_alloc_new _ _, Nat.le_refl _, by omega, by omega, hCw⟩
  clear c1 g1 R1
  go_wp2_with fail
  refine (l1Below_any C 15 _ E0.out.cur (by decide)).mono ?_
  rintro e w2 ⟨x, rfl, hx0, hx1, _, c2, g2⟩
  have E2 : Hid (MsgEnd w C w.heap.size w1.heap.size o k v w2) := E0.out.chgC c2 g2
  clear c2 g2 hx1 E0
  rcases (show x = 0 ∨ x = 1 ∨ x = 2 ∨ 3 ≤ x by omega) with rfl | rfl | rfl | h3
  · go_wp2_with fail
    refine (l1Below_any C 7 _ E2.out.cur (by decide)).mono ?_
    rintro e w3 ⟨y, rfl, hy0, hy1, _, c3, g3⟩
    have hy7 := hy1 (by decide)
    have E3 := E2.out.chgC c3 g3
    obtain ⟨⟨a0, a1, a2⟩, b0, b1, b2⟩ := at3 E3.hM
    have hs := set31 (.int .i64 (y - 1)) E3.hM
    have E4 := E3.set 0 _ hs
    obtain ⟨⟨m0, m1, m2⟩, n0, n1, n2⟩ := at3 hs
    obtain ⟨ra, rb, rc, hRR⟩ := E4.hR
    obtain ⟨⟨r0, r1, r2⟩, t0, t1, t2⟩ := at3 hRR
    have FIN : Hid _ := E4.fin
    clear c3 g3 E3 hs E4 hy1 hRR
    go_wp2
    obtain ⟨⟨k1, k2⟩, q0, q1, q2⟩ := FIN.out
    exact bodyPost_ret (v := .agg #[.int .i64 (y - 1), .int .i64 k, .int .i64 v]) (by simp [results, Try.results69, go_sem, q0, q1, q2]) rfl ⟨_, _, _, rfl, k1, k2⟩
  · have hs2 : w1.heap.size < w2.heap.size := (Array.getElem?_eq_some_iff.1 E2.out.hM).1
    have hd : C ≠ w2.heap.size := by have := E2.out.cur.lt; omega
    go_wp2_with fail
    refine (l1PickInt_any C w2.heap.size [-1, 1000] (by decide) (by decide) _ (E2.out.alloc _).cur (heap_alloc_new _ _) (fun e => hd e.symm)).mono ?_
    rintro e w3 ⟨y, rfl, _, c3, g3⟩
    have E3 := (E2.out.alloc _).chgC c3 g3
    obtain ⟨⟨a0, a1, a2⟩, b0, b1, b2⟩ := at3 E3.hM
    have hs := set32 (.int .i64 y) E3.hM
    have E4 := E3.set 1 _ hs
    obtain ⟨⟨m0, m1, m2⟩, n0, n1, n2⟩ := at3 hs
    obtain ⟨ra, rb, rc, hRR⟩ := E4.hR
    obtain ⟨⟨r0, r1, r2⟩, t0, t1, t2⟩ := at3 hRR
    have FIN : Hid _ := E4.fin
    clear c3 g3 E3 hs E4 hRR
    go_wp2
    obtain ⟨⟨k1, k2⟩, q0, q1, q2⟩ := FIN.out
    exact bodyPost_ret (v := .agg #[.int .i64 o, .int .i64 y, .int .i64 v]) (by simp [results, Try.results69, go_sem, q0, q1, q2]) rfl ⟨_, _, _, rfl, k1, k2⟩
  · have hs2 : w1.heap.size < w2.heap.size := (Array.getElem?_eq_some_iff.1 E2.out.hM).1
    have hd : C ≠ w2.heap.size := by have := E2.out.cur.lt; omega
    go_wp2_with fail
    refine (l1PickInt_any C w2.heap.size [1000000001, 3] (by decide) (by decide) _ (E2.out.alloc _).cur (heap_alloc_new _ _) (fun e => hd e.symm)).mono ?_
    rintro e w3 ⟨y, rfl, _, c3, g3⟩
    have E3 := (E2.out.alloc _).chgC c3 g3
    obtain ⟨⟨a0, a1, a2⟩, b0, b1, b2⟩ := at3 E3.hM
    have hs := set3 (.int .i64 y) E3.hM
    have E4 := E3.set 2 _ hs
    obtain ⟨⟨m0, m1, m2⟩, n0, n1, n2⟩ := at3 hs
    obtain ⟨ra, rb, rc, hRR⟩ := E4.hR
    obtain ⟨⟨r0, r1, r2⟩, t0, t1, t2⟩ := at3 hRR
    have FIN : Hid _ := E4.fin
    clear c3 g3 E3 hs E4 hRR
    go_wp2
    obtain ⟨⟨k1, k2⟩, q0, q1, q2⟩ := FIN.out
    exact bodyPost_ret (v := .agg #[.int .i64 o, .int .i64 k, .int .i64 y]) (by simp [results, Try.results69, go_sem, q0, q1, q2]) rfl ⟨_, _, _, rfl, k1, k2⟩
  · have e0 : (x == 0) = false := by rw [beq_eq_false_iff_ne]; omega
    have e1 : (x == 1) = false := by rw [beq_eq_false_iff_ne]; omega
    have e2 : (x == 2) = false := by rw [beq_eq_false_iff_ne]; omega
    obtain ⟨⟨m0, m1, m2⟩, n0, n1, n2⟩ := at3 E2.out.hM
    obtain ⟨ra, rb, rc, hRR⟩ := E2.out.hR
    obtain ⟨⟨r0, r1, r2⟩, t0, t1, t2⟩ := at3 hRR
    have FIN : Hid _ := E2.out.fin
    go_wp2
    obtain ⟨⟨k1, k2⟩, q0, q1, q2⟩ := FIN.out
    exact bodyPost_ret (v := .agg #[.int .i64 o, .int .i64 k, .int .i64 v]) (by simp [results, Try.results69, go_sem, q0, q1, q2]) rfl ⟨_, _, _, rfl, k1, k2⟩


end Go.Proofs.Yteegcblndbljlaa
