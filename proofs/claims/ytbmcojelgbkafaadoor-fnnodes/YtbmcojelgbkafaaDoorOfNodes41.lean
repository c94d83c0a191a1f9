/-
  The program's reader: a fork.
-/
import Derived.Test.YtbmcojelgbkafaaDoorOfNodes40
namespace Go.Proofs.YtbmcojelgbkafaaDoor
set_option maxRecDepth 100000
set_option maxHeartbeats 8000000
section
open Go.RowKit

theorem fork_any (ea : Addr) (v : Value) (bs : List Int) (P : Nat) (at_ : Int) (w : World) (h : Reads w v bs P at_ ea) :
  Calls Tryd.prog 37 #[.agg #[v, .pointer (some ⟨P, 0, none⟩)]] w fun e w' => ForkPost ea P w.heap.size (forkN bs at_) e w' ∧ Chg (fun g => g = P) w w' := by
 obtain ⟨av, bv, ov, cv, hv, _⟩ := id h.row
 have hPlt := h.place.lt
 have b1 : Below w.heap.size w (w.alloc (.cells #[v, .pointer (some ⟨P, 0, none⟩)] 48)) := bel_new _ _
 have n1 := heap_alloc_new w (.cells #[v, .pointer (some ⟨P, 0, none⟩)] 48)
 generalize hW1 : w.alloc (.cells #[v, .pointer (some ⟨P, 0, none⟩)] 48) = W1 at b1 n1
 have s1 : W1.heap.size = w.heap.size + 1 := by rw [← hW1]; simp
 have b2 : Below W1.heap.size W1 (W1.alloc (.cells #[.bool false, .slice none 0 0, .slice none 0 0, .slice none 0 0, .slice none 0 0] 29)) := bel_new _ _
 have n2 := heap_alloc_new W1 (.cells #[.bool false, .slice none 0 0, .slice none 0 0, .slice none 0 0, .slice none 0 0] 29)
 generalize hW2 : W1.alloc (.cells #[.bool false, .slice none 0 0, .slice none 0 0, .slice none 0 0, .slice none 0 0] 29) = W2 at b2 n2
 have s2 : W2.heap.size = W1.heap.size + 1 := by rw [← hW2]; simp
 have E2 : Hid ((w.alloc (.cells #[v, .pointer (some ⟨P, 0, none⟩)] 48)).alloc (.cells #[.bool false, .slice none 0 0, .slice none 0 0, .slice none 0 0, .slice none 0 0] 29) = W2) := by show _ = _; rw [hW1, hW2]
 rw [s1] at n2
 have B2 : Below w.heap.size w W2 := Below.and b1 b2
 have r2 : W2.heap[w.heap.size]? = some (Obj.cells #[v, .pointer (some ⟨P, 0, none⟩)] 48 (0, 0)) := (row_chg n1 (Chg.of_below (F := fun _ => False) b2) id)
 have hs2 : w.heap.size + 1 + 1 ≤ W2.heap.size := by omega
 have HW : Hid (Reads w v bs P at_ ea) := h
 have H0 : Hid _ := And.intro (h.below B2) (And.intro B2 (And.intro r2 n2))
 clear h b1 n1 hW1 s1 b2 n2 hW2 s2 B2 r2
 subst hv
 go_enter Tryd.func37, Tryd.ntmps37
 go_wp2_with fail
 rw [E2.out]
 refine (count_any ea _ bs P at_ 1 4 W2 H0.out.1).mono ?_
 rintro e w3 ⟨hn, hc⟩
 cases hg : countN bs at_ 1 4 with
 | none =>
  rw [hg] at hn
  have hn' : e = .panicked (boom ea) := hn
  subst hn'
  have G : Hid (forkN bs at_ = none) := by show _ = _; unfold forkN; rw [hg]
  have FIN : Hid (Chg (fun g => g = P) w w3) := (Chg.of_below (F := fun g => g = P) H0.out.2.1).trans hc (fun _ _ h => h)
  clear hn hg hc
  go_wp2
  rw [G.out]
  exact ⟨rfl, rfl, FIN.out⟩
 | some np =>
  obtain ⟨nn, p3⟩ := np
  rw [hg] at hn
  obtain ⟨rfl, pl3⟩ := hn
  obtain ⟨hn0, hn4, _⟩ := countN_in hg
  obtain ⟨k, rfl⟩ : ∃ k : Nat, nn = ((k + 1 : Nat) : Int) := ⟨(nn - 1).toNat, by omega⟩
  have hk : k ≤ 3 := by omega
  have G0 : Hid (forkN bs at_ = forkA bs p3 k) := by show _ = _; unfold forkN; rw [hg]; simp
  have H3 : Hid (Reads w3 (.slice av bs.length cv) bs P p3 ea ∧ w3.heap[w.heap.size]? = some (Obj.cells #[.slice av bs.length cv, .pointer (some ⟨P, 0, none⟩)] 48 (0, 0)) ∧ w3.heap[w.heap.size + 1]? = some (Obj.cells #[.bool false, .slice none 0 0, .slice none 0 0, .slice none 0 0, .slice none 0 0] 29 (0, 0)) ∧ Chg (fun g => g = P) w w3) :=
   ⟨H0.out.1.next hc pl3, row_chg H0.out.2.2.1 hc (by omega), row_chg H0.out.2.2.2 hc (by omega), (Chg.of_below (F := fun g => g = P) H0.out.2.1).trans hc (fun _ _ h => h)⟩
  have hs3 : w.heap.size + 1 + 1 ≤ w3.heap.size := Nat.le_trans hs2 hc.size
  have c30 : w3.cell? ⟨w.heap.size, 0, none⟩ = some (.slice av bs.length cv) := by rw [cell_of_cells H3.out.2.1]; rfl
  have c31 : w3.cell? ⟨w.heap.size, 1, none⟩ = some (.pointer (some ⟨P, 0, none⟩)) := by rw [cell_of_cells H3.out.2.1]; rfl
  clear hg hc H0 E2 pl3 hn0 hn4 hs2
  go_wp2_with fail
  refine (nums_any ea _ bs P p3 (k + 1) (by omega) w3 H3.out.1).mono ?_
  rintro e w4 ⟨hn, hc⟩
  cases hg : numsN bs p3 (k + 1) with
  | none =>
   rw [hg] at hn
   have hn' : e = .panicked (boom ea) := hn
   subst hn'
   have GN : Hid (forkN bs at_ = none) := by show _ = _; rw [G0.out, forkA, hg]
   have FIN : Hid (Chg (fun g => g = P) w w4) := H3.out.2.2.2.trans hc (fun _ _ h => h)
   clear hn hg hc c30 c31
   go_wp2
   rw [GN.out]
   exact ⟨rfl, rfl, FIN.out⟩
  | some lq =>
   obtain ⟨ks, p4⟩ := lq
   rw [hg] at hn
   obtain ⟨vk, rfl, ok4, pl4⟩ := hn
   obtain ⟨ak, qk, rfl, _, _⟩ := owns_shape ok4
   have hks : Hid (ks.length = k + 1) := numsN_length hg
   have G : Hid (forkN bs at_ = forkB bs p4 k ks) := by show _ = _; rw [G0.out, forkA, hg]
   have H4 : Hid (Reads w4 (.slice av bs.length cv) bs P p4 ea ∧ w4.heap[w.heap.size]? = some (Obj.cells #[.slice av bs.length cv, .pointer (some ⟨P, 0, none⟩)] 48 (0, 0)) ∧ w4.heap[w.heap.size + 1]? = some (Obj.cells #[.bool false, .slice none 0 0, .slice none 0 0, .slice none 0 0, .slice none 0 0] 29 (0, 0)) ∧ OwnI w3.heap.size w4 (.slice ak ks.length qk) ks) :=
    ⟨H3.out.1.next hc pl4, row_chg H3.out.2.1 hc (by omega), row_chg H3.out.2.2.1 hc (by omega), ok4⟩
   have C4 : Hid (Chg (fun g => g = P) w w4) := H3.out.2.2.2.trans hc (fun _ _ h => h)
   have hs4 : w.heap.size + 1 + 1 ≤ w4.heap.size := Nat.le_trans hs3 hc.size
   have hs34 : w3.heap.size ≤ w4.heap.size := hc.size
   have HR0 : Hid (ForkR w4 P k p4 none none none w4) := ForkR.start pl4
   clear hg hc H3 ok4 pl4 G0 c30 c31
   go_upto_region 3 with fail
   go_cut [6] (fun s6 wx => ∃ (A M : Nat) (ac : Option Addr) (qc : Nat) (cs : List Int) (p5 : Int), s6 = .pointer (some ⟨A, 0, none⟩) ∧ ForkM w4 P k p4 A M (.slice ac cs.length qc) cs p5 bs wx)
   case first =>
    have HS : Hid (∀ u, Chg (fun g => g = P) w4 u → (fun u : World => u.cell? ⟨w.heap.size, 0, none⟩ = some (.slice av bs.length cv) ∧ u.cell? ⟨w.heap.size, 1, none⟩ = some (.pointer (some ⟨P, 0, none⟩))) u) :=
     fun u hu => ⟨by rw [box_cell H4.out.2.1 hu (by omega)]; rfl, by rw [box_cell H4.out.2.1 hu (by omega)]; rfl⟩
    have hmk := make_trees k hk
    refine wp_region_last (fun u => u.cell? ⟨w.heap.size, 0, none⟩ = some (.slice av bs.length cv) ∧ u.cell? ⟨w.heap.size, 1, none⟩ = some (.pointer (some ⟨P, 0, none⟩))) [_, _, _, _, _, _, _, _] _ rfl (by kernel_rfl) (by kernel_rfl) ?_
    have R0 : Hid (ForkR w4 P k p4 none none none w4.drew) := HR0.out.drew
    have S0 := HS.out _ R0.out.chg
    generalize w4.drew = u0 at *
    refine wpAnyH_take (i := 0) (oi := ⟨_, _, _, _, _, _⟩) (v := ?_) rfl (by kernel_rfl) (by kernel_rfl) (by kernel_rfl) (fun _ _ _ h => h) (Or.inl ⟨by rfl, ?_⟩) (by assumption) ?_
    rotate_left
    ·((intro w hSw; (try dsimp only at hSw); go_simp); (try with_reducible rfl))
    try simp only [Act.put, List.setIfInBounds_toArray, List.set_cons_zero, List.set_cons_succ]
    refine wpAnyH_take (i := 1) (oi := ⟨_, _, _, _, _, _⟩) (v := ?_) rfl (by kernel_rfl) (by kernel_rfl) (by kernel_rfl) (fun _ _ _ h => h) (Or.inl ⟨by rfl, ?_⟩) (by assumption) ?_
    rotate_left
    ·((intro w hSw; (try dsimp only at hSw); go_simp); (try with_reducible rfl))
    try simp only [Act.put, List.setIfInBounds_toArray, List.set_cons_zero, List.set_cons_succ]
    refine wpAnyH_take (i := 2) (oi := ⟨_, _, _, _, _, _⟩) (v := .int .i64 (k : Int)) rfl (by kernel_rfl) (by kernel_rfl) (by kernel_rfl) (fun _ _ _ h => h) (Or.inl ⟨by rfl, ?_⟩) (by assumption) ?_
    ·(intro w hSw; (try dsimp only at hSw); go_simp; (try (rw [IntKind.wrap_i64]; omega)))
    try simp only [Act.put, List.setIfInBounds_toArray, List.set_cons_zero, List.set_cons_succ]
    refine wpAnyH_take (i := 4) (oi := ⟨_, _, _, _, _, _⟩) (v := ?_) rfl (by kernel_rfl) (by kernel_rfl) (by kernel_rfl) (fun _ _ _ h => h) (Or.inl ⟨by rfl, ?_⟩) (by assumption) ?_
    rotate_left
    ·((intro w hSw; (try dsimp only at hSw); go_simp); (try with_reducible rfl))
    try simp only [Act.put, List.setIfInBounds_toArray, List.set_cons_zero, List.set_cons_succ]
    refine wpAnyH_ready (rs := [3, 5, 7]) (by kernel_rfl) (by simp) ?_
    refine AllReadyH.cons (o := ⟨_, _, _, _, _, _⟩) rfl (fun K hK => ?_) ?_
    ·
     go_simp
     refine Calls.mono (nums_any ea _ bs P p4 k (by omega) u0 (H4.out.1.next R0.out.chg R0.out.place)) ?_
     rintro e u1 ⟨hn1, hc1⟩
     cases hg : numsN bs p4 k with
     | none =>
      rw [hg] at hn1
      have hn' : e = .panicked (boom ea) := hn1
      subst hn'
      have FIN : Hid (Chg (fun g => g = P) w u1) := C4.out.trans (R0.out.chg.trans hc1 (fun _ _ h => h)) (fun _ _ h => h)
      have GN : Hid (forkN bs at_ = none) := by show _ = _; rw [G.out, forkB, hg]
      clear hg hn1 hc1
      dsimp only [LastQ]
      clear hK K
      go_wp2
      rw [GN.out]
      exact ⟨rfl, rfl, FIN.out⟩
     | some lq =>
      obtain ⟨cs, p5⟩ := lq
      rw [hg] at hn1
      obtain ⟨vc, rfl, oc, pc⟩ := hn1
      have Q1 := ForkR.call R0.out hc1 oc pc
      have S1 := HS.out _ Q1.chg
      have R1 : Hid _ := Q1
      replace hg : Hid _ := hg
      obtain ⟨ac, qc, rfl, _, _⟩ := owns_shape oc
      clear Q1 hc1 oc pc
      refine hK.out _ _ S1 (fun _ => ?_)
      clear hK K
      try simp only [Act.put, List.setIfInBounds_toArray, List.set_cons_zero, List.set_cons_succ]
      refine wpAnyH_ready (rs := [5, 7]) (by kernel_rfl) (by simp) ?_
      refine AllReadyH.cons (o := ⟨_, _, _, _, _, _⟩) rfl (fun K hK => ?_) ?_
      ·
       go_simp
       have Q2 := ForkR.make R1.out
       have S2 := HS.out _ Q2.chg
       refine hK.out _ _ S2 (fun _ => ?_)
       clear hK K
       try simp only [Act.put, List.setIfInBounds_toArray, List.set_cons_zero, List.set_cons_succ]
       generalize u1.alloc (.cells (madeCells #[.bool false, .slice none 0 0, .slice none 0 0, .slice none 0 0, .slice none 0 0] ((k + 1) * 5)) 29) = u2 at *
       have R2 : Hid _ := Q2
       clear Q2
       refine wpAnyH_take (i := 6) (oi := ⟨_, _, _, _, _, _⟩) (v := ?_) rfl (by kernel_rfl) (by kernel_rfl) (by kernel_rfl) (fun _ _ _ h => h) (Or.inl ⟨by rfl, ?_⟩) (by assumption) ?_
       rotate_left
       ·((intro w hSw; (try dsimp only at hSw); go_simp); (try with_reducible rfl))
       try simp only [Act.put, List.setIfInBounds_toArray, List.set_cons_zero, List.set_cons_succ]
       refine wpAnyH_ready (rs := [7]) (by kernel_rfl) (by simp) ?_
       refine AllReadyH.cons (o := ⟨_, _, _, _, _, _⟩) rfl (fun K hK => ?_) ?_
       ·
        go_simp
        have Q3 := ForkR.alloc R2.out
        have S3 := HS.out _ Q3.chg
        refine hK.out _ _ S3 (fun _ => ?_)
        clear hK K
        try simp only [Act.put, List.setIfInBounds_toArray, List.set_cons_zero, List.set_cons_succ]
        generalize u2.alloc (.cells #[.bool false, .slice none 0 0, .slice none 0 0, .slice none 0 0, .slice none 0 0] 29) = u3 at *
        have R3 : Hid _ := Q3
        clear Q3
        have f9 : ∀ j, u3.frozen? ⟨u2.heap.size, j, none⟩ = false := fun j => frozen_of_cells (R3.out.box _ rfl).2
        have k9 : ∀ j, u3.cell? ⟨u2.heap.size, j, none⟩ = (#[.bool false, .slice none 0 0, .slice none 0 0, .slice none 0 0, .slice none 0 0] : Array Value)[j]? := fun j => cell_of_cells (R3.out.box _ rfl).2
        refine wpAnyH_done (by kernel_rfl) ?_ _
        show Oper.wp _ _ _ _ _ _
        go_simp
        have F9 : Hid _ := ForkR.set R3.out hg.out
        unfold sef5 at F9
        go_wp2_with fail
        go_meet
        case rel => exact ⟨_, _, _, _, _, _, rfl, F9.out⟩
       exact AllReadyH.nil
      refine AllReadyH.cons (o := ⟨_, _, _, _, _, _⟩) rfl (fun K hK => ?_) ?_
      ·
       go_simp
       have Q2 := ForkR.alloc R1.out
       have S2 := HS.out _ Q2.chg
       refine hK.out _ _ S2 (fun _ => ?_)
       clear hK K
       try simp only [Act.put, List.setIfInBounds_toArray, List.set_cons_zero, List.set_cons_succ]
       generalize u1.alloc (.cells #[.bool false, .slice none 0 0, .slice none 0 0, .slice none 0 0, .slice none 0 0] 29) = u2 at *
       have R2 : Hid _ := Q2
       clear Q2
       refine wpAnyH_ready (rs := [5]) (by kernel_rfl) (by simp) ?_
       refine AllReadyH.cons (o := ⟨_, _, _, _, _, _⟩) rfl (fun K hK => ?_) ?_
       ·
        go_simp
        have Q3 := ForkR.make R2.out
        have S3 := HS.out _ Q3.chg
        refine hK.out _ _ S3 (fun _ => ?_)
        clear hK K
        try simp only [Act.put, List.setIfInBounds_toArray, List.set_cons_zero, List.set_cons_succ]
        generalize u2.alloc (.cells (madeCells #[.bool false, .slice none 0 0, .slice none 0 0, .slice none 0 0, .slice none 0 0] ((k + 1) * 5)) 29) = u3 at *
        have R3 : Hid _ := Q3
        clear Q3
        refine wpAnyH_take (i := 6) (oi := ⟨_, _, _, _, _, _⟩) (v := ?_) rfl (by kernel_rfl) (by kernel_rfl) (by kernel_rfl) (fun _ _ _ h => h) (Or.inl ⟨by rfl, ?_⟩) (by assumption) ?_
        rotate_left
        ·((intro w hSw; (try dsimp only at hSw); go_simp); (try with_reducible rfl))
        try simp only [Act.put, List.setIfInBounds_toArray, List.set_cons_zero, List.set_cons_succ]
        have f9 : ∀ j, u3.frozen? ⟨u1.heap.size, j, none⟩ = false := fun j => frozen_of_cells (R3.out.box _ rfl).2
        have k9 : ∀ j, u3.cell? ⟨u1.heap.size, j, none⟩ = (#[.bool false, .slice none 0 0, .slice none 0 0, .slice none 0 0, .slice none 0 0] : Array Value)[j]? := fun j => cell_of_cells (R3.out.box _ rfl).2
        refine wpAnyH_done (by kernel_rfl) ?_ _
        show Oper.wp _ _ _ _ _ _
        go_simp
        have F9 : Hid _ := ForkR.set R3.out hg.out
        unfold sef5 at F9
        go_wp2_with fail
        go_meet
        case rel => exact ⟨_, _, _, _, _, _, rfl, F9.out⟩
       exact AllReadyH.nil
      exact AllReadyH.nil
    refine AllReadyH.cons (o := ⟨_, _, _, _, _, _⟩) rfl (fun K hK => ?_) ?_
    ·
     go_simp
     have Q1 := ForkR.make R0.out
     have S1 := HS.out _ Q1.chg
     refine hK.out _ _ S1 (fun _ => ?_)
     clear hK K
     try simp only [Act.put, List.setIfInBounds_toArray, List.set_cons_zero, List.set_cons_succ]
     generalize u0.alloc (.cells (madeCells #[.bool false, .slice none 0 0, .slice none 0 0, .slice none 0 0, .slice none 0 0] ((k + 1) * 5)) 29) = u1 at *
     have R1 : Hid _ := Q1
     clear Q1
     refine wpAnyH_ready (rs := [3, 7]) (by kernel_rfl) (by simp) ?_
     refine AllReadyH.cons (o := ⟨_, _, _, _, _, _⟩) rfl (fun K hK => ?_) ?_
     ·
      go_simp
      refine Calls.mono (nums_any ea _ bs P p4 k (by omega) u1 (H4.out.1.next R1.out.chg R1.out.place)) ?_
      rintro e u2 ⟨hn2, hc2⟩
      cases hg : numsN bs p4 k with
      | none =>
       rw [hg] at hn2
       have hn' : e = .panicked (boom ea) := hn2
       subst hn'
       have FIN : Hid (Chg (fun g => g = P) w u2) := C4.out.trans (R1.out.chg.trans hc2 (fun _ _ h => h)) (fun _ _ h => h)
       have GN : Hid (forkN bs at_ = none) := by show _ = _; rw [G.out, forkB, hg]
       clear hg hn2 hc2
       dsimp only [LastQ]
       clear hK K
       go_wp2
       rw [GN.out]
       exact ⟨rfl, rfl, FIN.out⟩
      | some lq =>
       obtain ⟨cs, p5⟩ := lq
       rw [hg] at hn2
       obtain ⟨vc, rfl, oc, pc⟩ := hn2
       have Q2 := ForkR.call R1.out hc2 oc pc
       have S2 := HS.out _ Q2.chg
       have R2 : Hid _ := Q2
       replace hg : Hid _ := hg
       obtain ⟨ac, qc, rfl, _, _⟩ := owns_shape oc
       clear Q2 hc2 oc pc
       refine hK.out _ _ S2 (fun _ => ?_)
       clear hK K
       try simp only [Act.put, List.setIfInBounds_toArray, List.set_cons_zero, List.set_cons_succ]
       refine wpAnyH_take (i := 6) (oi := ⟨_, _, _, _, _, _⟩) (v := ?_) rfl (by kernel_rfl) (by kernel_rfl) (by kernel_rfl) (fun _ _ _ h => h) (Or.inl ⟨by rfl, ?_⟩) (by assumption) ?_
       rotate_left
       ·((intro w hSw; (try dsimp only at hSw); go_simp); (try with_reducible rfl))
       try simp only [Act.put, List.setIfInBounds_toArray, List.set_cons_zero, List.set_cons_succ]
       refine wpAnyH_ready (rs := [7]) (by kernel_rfl) (by simp) ?_
       refine AllReadyH.cons (o := ⟨_, _, _, _, _, _⟩) rfl (fun K hK => ?_) ?_
       ·
        go_simp
        have Q3 := ForkR.alloc R2.out
        have S3 := HS.out _ Q3.chg
        refine hK.out _ _ S3 (fun _ => ?_)
        clear hK K
        try simp only [Act.put, List.setIfInBounds_toArray, List.set_cons_zero, List.set_cons_succ]
        generalize u2.alloc (.cells #[.bool false, .slice none 0 0, .slice none 0 0, .slice none 0 0, .slice none 0 0] 29) = u3 at *
        have R3 : Hid _ := Q3
        clear Q3
        have f9 : ∀ j, u3.frozen? ⟨u2.heap.size, j, none⟩ = false := fun j => frozen_of_cells (R3.out.box _ rfl).2
        have k9 : ∀ j, u3.cell? ⟨u2.heap.size, j, none⟩ = (#[.bool false, .slice none 0 0, .slice none 0 0, .slice none 0 0, .slice none 0 0] : Array Value)[j]? := fun j => cell_of_cells (R3.out.box _ rfl).2
        refine wpAnyH_done (by kernel_rfl) ?_ _
        show Oper.wp _ _ _ _ _ _
        go_simp
        have F9 : Hid _ := ForkR.set R3.out hg.out
        unfold sef5 at F9
        go_wp2_with fail
        go_meet
        case rel => exact ⟨_, _, _, _, _, _, rfl, F9.out⟩
       exact AllReadyH.nil
     refine AllReadyH.cons (o := ⟨_, _, _, _, _, _⟩) rfl (fun K hK => ?_) ?_
     ·
      go_simp
      have Q2 := ForkR.alloc R1.out
      have S2 := HS.out _ Q2.chg
      refine hK.out _ _ S2 (fun _ => ?_)
      clear hK K
      try simp only [Act.put, List.setIfInBounds_toArray, List.set_cons_zero, List.set_cons_succ]
      generalize u1.alloc (.cells #[.bool false, .slice none 0 0, .slice none 0 0, .slice none 0 0, .slice none 0 0] 29) = u2 at *
      have R2 : Hid _ := Q2
      clear Q2
      refine wpAnyH_ready (rs := [3]) (by kernel_rfl) (by simp) ?_
      refine AllReadyH.cons (o := ⟨_, _, _, _, _, _⟩) rfl (fun K hK => ?_) ?_
      ·
       go_simp
       refine Calls.mono (nums_any ea _ bs P p4 k (by omega) u2 (H4.out.1.next R2.out.chg R2.out.place)) ?_
       rintro e u3 ⟨hn3, hc3⟩
       cases hg : numsN bs p4 k with
       | none =>
        rw [hg] at hn3
        have hn' : e = .panicked (boom ea) := hn3
        subst hn'
        have FIN : Hid (Chg (fun g => g = P) w u3) := C4.out.trans (R2.out.chg.trans hc3 (fun _ _ h => h)) (fun _ _ h => h)
        have GN : Hid (forkN bs at_ = none) := by show _ = _; rw [G.out, forkB, hg]
        clear hg hn3 hc3
        dsimp only [LastQ]
        clear hK K
        go_wp2
        rw [GN.out]
        exact ⟨rfl, rfl, FIN.out⟩
       | some lq =>
        obtain ⟨cs, p5⟩ := lq
        rw [hg] at hn3
        obtain ⟨vc, rfl, oc, pc⟩ := hn3
        have Q3 := ForkR.call R2.out hc3 oc pc
        have S3 := HS.out _ Q3.chg
        have R3 : Hid _ := Q3
        replace hg : Hid _ := hg
        obtain ⟨ac, qc, rfl, _, _⟩ := owns_shape oc
        clear Q3 hc3 oc pc
        refine hK.out _ _ S3 (fun _ => ?_)
        clear hK K
        try simp only [Act.put, List.setIfInBounds_toArray, List.set_cons_zero, List.set_cons_succ]
        refine wpAnyH_take (i := 6) (oi := ⟨_, _, _, _, _, _⟩) (v := ?_) rfl (by kernel_rfl) (by kernel_rfl) (by kernel_rfl) (fun _ _ _ h => h) (Or.inl ⟨by rfl, ?_⟩) (by assumption) ?_
        rotate_left
        ·((intro w hSw; (try dsimp only at hSw); go_simp); (try with_reducible rfl))
        try simp only [Act.put, List.setIfInBounds_toArray, List.set_cons_zero, List.set_cons_succ]
        have f9 : ∀ j, u3.frozen? ⟨u1.heap.size, j, none⟩ = false := fun j => frozen_of_cells (R3.out.box _ rfl).2
        have k9 : ∀ j, u3.cell? ⟨u1.heap.size, j, none⟩ = (#[.bool false, .slice none 0 0, .slice none 0 0, .slice none 0 0, .slice none 0 0] : Array Value)[j]? := fun j => cell_of_cells (R3.out.box _ rfl).2
        refine wpAnyH_done (by kernel_rfl) ?_ _
        show Oper.wp _ _ _ _ _ _
        go_simp
        have F9 : Hid _ := ForkR.set R3.out hg.out
        unfold sef5 at F9
        go_wp2_with fail
        go_meet
        case rel => exact ⟨_, _, _, _, _, _, rfl, F9.out⟩
      exact AllReadyH.nil
     exact AllReadyH.nil
    refine AllReadyH.cons (o := ⟨_, _, _, _, _, _⟩) rfl (fun K hK => ?_) ?_
    ·
     go_simp
     have Q1 := ForkR.alloc R0.out
     have S1 := HS.out _ Q1.chg
     refine hK.out _ _ S1 (fun _ => ?_)
     clear hK K
     try simp only [Act.put, List.setIfInBounds_toArray, List.set_cons_zero, List.set_cons_succ]
     generalize u0.alloc (.cells #[.bool false, .slice none 0 0, .slice none 0 0, .slice none 0 0, .slice none 0 0] 29) = u1 at *
     have R1 : Hid _ := Q1
     clear Q1
     refine wpAnyH_ready (rs := [3, 5]) (by kernel_rfl) (by simp) ?_
     refine AllReadyH.cons (o := ⟨_, _, _, _, _, _⟩) rfl (fun K hK => ?_) ?_
     ·
      go_simp
      refine Calls.mono (nums_any ea _ bs P p4 k (by omega) u1 (H4.out.1.next R1.out.chg R1.out.place)) ?_
      rintro e u2 ⟨hn2, hc2⟩
      cases hg : numsN bs p4 k with
      | none =>
       rw [hg] at hn2
       have hn' : e = .panicked (boom ea) := hn2
       subst hn'
       have FIN : Hid (Chg (fun g => g = P) w u2) := C4.out.trans (R1.out.chg.trans hc2 (fun _ _ h => h)) (fun _ _ h => h)
       have GN : Hid (forkN bs at_ = none) := by show _ = _; rw [G.out, forkB, hg]
       clear hg hn2 hc2
       dsimp only [LastQ]
       clear hK K
       go_wp2
       rw [GN.out]
       exact ⟨rfl, rfl, FIN.out⟩
      | some lq =>
       obtain ⟨cs, p5⟩ := lq
       rw [hg] at hn2
       obtain ⟨vc, rfl, oc, pc⟩ := hn2
       have Q2 := ForkR.call R1.out hc2 oc pc
       have S2 := HS.out _ Q2.chg
       have R2 : Hid _ := Q2
       replace hg : Hid _ := hg
       obtain ⟨ac, qc, rfl, _, _⟩ := owns_shape oc
       clear Q2 hc2 oc pc
       refine hK.out _ _ S2 (fun _ => ?_)
       clear hK K
       try simp only [Act.put, List.setIfInBounds_toArray, List.set_cons_zero, List.set_cons_succ]
       refine wpAnyH_ready (rs := [5]) (by kernel_rfl) (by simp) ?_
       refine AllReadyH.cons (o := ⟨_, _, _, _, _, _⟩) rfl (fun K hK => ?_) ?_
       ·
        go_simp
        have Q3 := ForkR.make R2.out
        have S3 := HS.out _ Q3.chg
        refine hK.out _ _ S3 (fun _ => ?_)
        clear hK K
        try simp only [Act.put, List.setIfInBounds_toArray, List.set_cons_zero, List.set_cons_succ]
        generalize u2.alloc (.cells (madeCells #[.bool false, .slice none 0 0, .slice none 0 0, .slice none 0 0, .slice none 0 0] ((k + 1) * 5)) 29) = u3 at *
        have R3 : Hid _ := Q3
        clear Q3
        refine wpAnyH_take (i := 6) (oi := ⟨_, _, _, _, _, _⟩) (v := ?_) rfl (by kernel_rfl) (by kernel_rfl) (by kernel_rfl) (fun _ _ _ h => h) (Or.inl ⟨by rfl, ?_⟩) (by assumption) ?_
        rotate_left
        ·((intro w hSw; (try dsimp only at hSw); go_simp); (try with_reducible rfl))
        try simp only [Act.put, List.setIfInBounds_toArray, List.set_cons_zero, List.set_cons_succ]
        have f9 : ∀ j, u3.frozen? ⟨u0.heap.size, j, none⟩ = false := fun j => frozen_of_cells (R3.out.box _ rfl).2
        have k9 : ∀ j, u3.cell? ⟨u0.heap.size, j, none⟩ = (#[.bool false, .slice none 0 0, .slice none 0 0, .slice none 0 0, .slice none 0 0] : Array Value)[j]? := fun j => cell_of_cells (R3.out.box _ rfl).2
        refine wpAnyH_done (by kernel_rfl) ?_ _
        show Oper.wp _ _ _ _ _ _
        go_simp
        have F9 : Hid _ := ForkR.set R3.out hg.out
        unfold sef5 at F9
        go_wp2_with fail
        go_meet
        case rel => exact ⟨_, _, _, _, _, _, rfl, F9.out⟩
       exact AllReadyH.nil
     refine AllReadyH.cons (o := ⟨_, _, _, _, _, _⟩) rfl (fun K hK => ?_) ?_
     ·
      go_simp
      have Q2 := ForkR.make R1.out
      have S2 := HS.out _ Q2.chg
      refine hK.out _ _ S2 (fun _ => ?_)
      clear hK K
      try simp only [Act.put, List.setIfInBounds_toArray, List.set_cons_zero, List.set_cons_succ]
      generalize u1.alloc (.cells (madeCells #[.bool false, .slice none 0 0, .slice none 0 0, .slice none 0 0, .slice none 0 0] ((k + 1) * 5)) 29) = u2 at *
      have R2 : Hid _ := Q2
      clear Q2
      refine wpAnyH_ready (rs := [3]) (by kernel_rfl) (by simp) ?_
      refine AllReadyH.cons (o := ⟨_, _, _, _, _, _⟩) rfl (fun K hK => ?_) ?_
      ·
       go_simp
       refine Calls.mono (nums_any ea _ bs P p4 k (by omega) u2 (H4.out.1.next R2.out.chg R2.out.place)) ?_
       rintro e u3 ⟨hn3, hc3⟩
       cases hg : numsN bs p4 k with
       | none =>
        rw [hg] at hn3
        have hn' : e = .panicked (boom ea) := hn3
        subst hn'
        have FIN : Hid (Chg (fun g => g = P) w u3) := C4.out.trans (R2.out.chg.trans hc3 (fun _ _ h => h)) (fun _ _ h => h)
        have GN : Hid (forkN bs at_ = none) := by show _ = _; rw [G.out, forkB, hg]
        clear hg hn3 hc3
        dsimp only [LastQ]
        clear hK K
        go_wp2
        rw [GN.out]
        exact ⟨rfl, rfl, FIN.out⟩
       | some lq =>
        obtain ⟨cs, p5⟩ := lq
        rw [hg] at hn3
        obtain ⟨vc, rfl, oc, pc⟩ := hn3
        have Q3 := ForkR.call R2.out hc3 oc pc
        have S3 := HS.out _ Q3.chg
        have R3 : Hid _ := Q3
        replace hg : Hid _ := hg
        obtain ⟨ac, qc, rfl, _, _⟩ := owns_shape oc
        clear Q3 hc3 oc pc
        refine hK.out _ _ S3 (fun _ => ?_)
        clear hK K
        try simp only [Act.put, List.setIfInBounds_toArray, List.set_cons_zero, List.set_cons_succ]
        refine wpAnyH_take (i := 6) (oi := ⟨_, _, _, _, _, _⟩) (v := ?_) rfl (by kernel_rfl) (by kernel_rfl) (by kernel_rfl) (fun _ _ _ h => h) (Or.inl ⟨by rfl, ?_⟩) (by assumption) ?_
        rotate_left
        ·((intro w hSw; (try dsimp only at hSw); go_simp); (try with_reducible rfl))
        try simp only [Act.put, List.setIfInBounds_toArray, List.set_cons_zero, List.set_cons_succ]
        have f9 : ∀ j, u3.frozen? ⟨u0.heap.size, j, none⟩ = false := fun j => frozen_of_cells (R3.out.box _ rfl).2
        have k9 : ∀ j, u3.cell? ⟨u0.heap.size, j, none⟩ = (#[.bool false, .slice none 0 0, .slice none 0 0, .slice none 0 0, .slice none 0 0] : Array Value)[j]? := fun j => cell_of_cells (R3.out.box _ rfl).2
        refine wpAnyH_done (by kernel_rfl) ?_ _
        show Oper.wp _ _ _ _ _ _
        go_simp
        have F9 : Hid _ := ForkR.set R3.out hg.out
        unfold sef5 at F9
        go_wp2_with fail
        go_meet
        case rel => exact ⟨_, _, _, _, _, _, rfl, F9.out⟩
      exact AllReadyH.nil
     exact AllReadyH.nil
    exact AllReadyH.nil
   case rest =>
   obtain ⟨A, M, ac, qc, cs, pc, rfl, FM⟩ := hcut
   obtain ⟨i0, hi, hz0, hz1, hz2⟩ := info_parts Tryd.infoMsg
   have HF : Hid _ := FM
   have HRd : Hid (Reads wc (.slice av bs.length cv) bs P pc ea) := H4.out.1.next FM.chg FM.place
   have c0 : wc.cell? ⟨w.heap.size, 0, none⟩ = some (.slice av bs.length cv) := by rw [box_cell H4.out.2.1 FM.chg (by omega)]; rfl
   have c1 : wc.cell? ⟨w.heap.size, 1, none⟩ = some (.pointer (some ⟨P, 0, none⟩)) := by rw [box_cell H4.out.2.1 FM.chg (by omega)]; rfl
   have G5 : Hid (forkN bs at_ = forkC bs pc ks cs) := by show _ = _; rw [G.out, forkB, FM.told]
   have hAM : M ≠ A := FM.ne
   have hAlo := FM.boxLe
   have hMlo := FM.madeLe
   clear FM HR0
   go_wp2_with fail
   refine (count_any ea _ bs P pc 0 6 wc HRd.out).mono ?_
   rintro e wb ⟨hn, hc⟩
   cases hg : countN bs pc 0 6 with
   | none =>
    rw [hg] at hn
    have hn' : e = .panicked (boom ea) := hn
    subst hn'
    have GN : Hid (forkN bs at_ = none) := by show _ = _; rw [G5.out]; unfold forkC; rw [hg]
    have FIN : Hid (Chg (fun g => g = P) w wb) := C4.out.trans (HF.out.chg.trans hc (fun _ _ h => h)) (fun _ _ h => h)
    clear hn hg hc
    go_wp2
    rw [GN.out]
    exact ⟨rfl, rfl, FIN.out⟩
   | some np =>
    obtain ⟨nn, pb⟩ := np
    rw [hg] at hn
    obtain ⟨rfl, plb⟩ := hn
    obtain ⟨hn0, hn6, _⟩ := countN_in hg
    obtain ⟨n, rfl⟩ := Int.eq_ofNat_of_zero_le hn0
    have G6 : Hid (forkN bs at_ = match msgsN bs pb n with | none => none | some (ms, r) => some (⟨ks, cs, ms⟩, r)) := by show _ = _; rw [G5.out]; unfold forkC; rw [hg]; rfl
    have C4b : Chg (fun g => g = P) w4 wb := HF.out.chg.trans hc (fun _ _ h => h)
    have HB : Hid (Reads wb (.slice av bs.length cv) bs P pb ea ∧ wb.heap[w.heap.size]? = some (Obj.cells #[.slice av bs.length cv, .pointer (some ⟨P, 0, none⟩)] 48 (0, 0)) ∧ wb.heap[w.heap.size + 1]? = some (Obj.cells #[.bool false, .slice none 0 0, .slice none 0 0, .slice none 0 0, .slice none 0 0] 29 (0, 0)) ∧ wb.heap[A]? = some (Obj.cells #[.bool false, .slice none 0 0, .slice ac cs.length qc, .slice (some ⟨M, 0, none⟩) (k + 1) (k + 1), .slice none 0 0] 29 (0, 0)) ∧ Chg (fun g => g = P) w wb) :=
     ⟨HRd.out.next hc plb, row_chg H4.out.2.1 C4b (by omega), row_chg H4.out.2.2.1 C4b (by omega), row_chg HF.out.box hc (by omega), C4.out.trans C4b (fun _ _ h => h)⟩
    have KB : Hid (OwnI w3.heap.size wb (.slice ak ks.length qk) ks ∧ ∀ g, (Value.slice ak ks.length qk).ownBlock = some g → g < w4.heap.size) :=
     ⟨owns_chg H4.out.2.2.2 C4b (fun g hg e => by have := (World.ownsRow.lt H4.out.2.2.2 g hg).1; omega), fun g hg => (World.ownsRow.lt H4.out.2.2.2 g hg).2⟩
    have CUT : Hid (OwnI w4.heap.size wb (.slice ac cs.length qc) cs ∧ ¬ (Value.slice ac cs.length qc).ownBlock = some A) :=
     ⟨owns_chg HF.out.cuts hc (fun g hg e => by have := (World.ownsRow.lt HF.out.cuts g hg).1; have := HF.out.low; omega), HF.out.free⟩
    have MB : Hid (wb.heap[M]? = some (.cells (madeCells #[.bool false, .slice none 0 0, .slice none 0 0, .slice none 0 0, .slice none 0 0] ((k + 1) * 5)) 29 (0, 0))) := row_chg HF.out.made hc (by omega)
    have hAhi : A < wb.heap.size := (Array.getElem?_eq_some_iff.1 HB.out.2.2.2.1).1
    have hMhi : M < wb.heap.size := (Array.getElem?_eq_some_iff.1 MB.out).1
    have hs4b : w4.heap.size ≤ wb.heap.size := C4b.size
    clear hg hc plb hn0 HF HRd C4b H4 c0 c1
    go_wp2_with fail
    go_loopw [22] (fun i wr => ∃ (j : Nat) (l : List (Int × Int × Int)) (q : Int) (vp : Value), j ≤ n ∧ i = .int .i64 j ∧ msgsN bs pb j = some (l, q) ∧ OwnE wr wb.heap.size 54 3 vp l.length (flatM l) ∧ PlaceIs wr P q ∧ wr.heap[A]? = some (.cells #[.bool false, .slice none 0 0, .slice ac cs.length qc, .slice (some ⟨M, 0, none⟩) (k + 1) (k + 1), vp] 29 (0, 0)) ∧ Chg (fun g => g = P ∨ g = A) wb wr)
     (fun i _ => n - (intOf i).toNat)
    case atStart => exact ⟨0, [], pb, .slice none 0 0, Nat.zero_le _, rfl, rfl, OwnE.nil _ _ _ _, HB.out.1.place, HB.out.2.2.2.1, Chg.refl _ _⟩
    case round =>
     obtain ⟨j, l, q, vp, hkn, rfl, hN, hown, hpl, hbx, hch⟩ := hrel
     have hl : l.length ≤ 6 := by rw [msgsN_length hN]; omega
     have CW : Chg (fun g => g = P) w wr := HB.out.2.2.2.2.trans hch (fun g hg e => by rcases e with e | e; exact e; omega)
     have HR : Hid (Reads wr (.slice av bs.length cv) bs P q ea) := HW.out.next CW hpl
     have c0 : wr.cell? ⟨w.heap.size, 0, none⟩ = some (.slice av bs.length cv) := by rw [box_cell HB.out.2.1 hch (by omega)]; rfl
     have c1 : wr.cell? ⟨w.heap.size, 1, none⟩ = some (.pointer (some ⟨P, 0, none⟩)) := by rw [box_cell HB.out.2.1 hch (by omega)]; rfl
     obtain ⟨ap, qp, rfl⟩ := hown.slice
     have BS := hch.size
     have I : Hid (OwnE wr wb.heap.size 54 3 (.slice ap l.length qp) l.length (flatM l) ∧ wr.heap[A]? = some (.cells #[.bool false, .slice none 0 0, .slice ac cs.length qc, .slice (some ⟨M, 0, none⟩) (k + 1) (k + 1), .slice ap l.length qp] 29 (0, 0)) ∧ Chg (fun g => g = P ∨ g = A) wb wr ∧ Chg (fun g => g = P) w wr) := ⟨hown, hbx, hch, CW⟩
     have HN : Hid _ := hN
     clear hown hch hN CW
     by_cases hlt : j < n
     ·clear hpl hbx
      go_wp2_with fail
      refine (nums_any ea _ bs P q 3 (by decide) wr HR.out).mono ?_
      rintro e w5 ⟨hn5, hc5⟩
      cases hg : numsN bs q 3 with
      | none =>
       rw [hg] at hn5
       have hn' : e = .panicked (boom ea) := hn5
       subst hn'
       have GN : Hid (msgsN bs pb n = none) := msgsN_none (k := j + 1) (by rw [msgsN, HN.out]; simp only [hg]) n hlt
       have FIN : Hid (Chg (fun g => g = P) w w5) := I.out.2.2.2.trans hc5 (fun _ _ h => h)
       clear hn5 hg hc5
       go_wp2
       rw [G6.out, GN.out]
       exact ⟨rfl, rfl, FIN.out⟩
      | some lq =>
       obtain ⟨l5, q5⟩ := lq
       obtain ⟨x, y, z, rfl⟩ := numsN_three hg
       rw [hg] at hn5
       obtain ⟨v5, rfl, o5, p5⟩ := hn5
       have GN : Hid (msgsN bs pb (j + 1) = some (l ++ [(x, y, z)], q5)) := by show _ = _; rw [msgsN, HN.out]; simp only [hg]
       have hex : ∃ g5 cp5, v5 = .slice (some ⟨g5, 0, none⟩) 3 cp5 ∧ wr.heap.size ≤ g5 := by
        obtain ⟨_, ⟨e, e2⟩ | ⟨g, cap', cur, e, hg', _⟩⟩ := o5
        ·simp at e2
        ·exact ⟨g, cap', e, hg'⟩
       obtain ⟨g5, cp5, rfl, hg5⟩ := hex
       have d0 : w5.cell? ⟨g5, 0, none⟩ = some (.int .i64 x) := (World.ownsRow.cellAt o5 0 (by decide)).trans rfl
       have d1 : w5.cell? ⟨g5, 1, none⟩ = some (.int .i64 y) := (World.ownsRow.cellAt o5 1 (by decide)).trans rfl
       have d3 : w5.cell? ⟨g5, 2, none⟩ = some (.int .i64 z) := (World.ownsRow.cellAt o5 2 (by decide)).trans rfl
       have bx5 : w5.heap[A]? = some (.cells #[.bool false, .slice none 0 0, .slice ac cs.length qc, .slice (some ⟨M, 0, none⟩) (k + 1) (k + 1), .slice ap l.length qp] 29 (0, 0)) := row_chg I.out.2.1 hc5 (by omega)
       have own5 : OwnE w5 wb.heap.size 54 3 (.slice ap l.length qp) l.length (flatM l) := I.out.1.chg hc5 (fun g hg e => by have := (I.out.1.lt g hg).1; omega)
       have C5 : Chg (fun g => g = P ∨ g = A) wb w5 := I.out.2.2.1.trans hc5 (fun _ _ h => .inl h)
       have J : Hid _ := And.intro own5 (And.intro bx5 (And.intro C5 p5))
       have d2 : w5.cell? ⟨A, 4, none⟩ = some (.slice ap l.length qp) := by rw [cell_of_cells bx5]; rfl
       have hg5lt : g5 < w5.heap.size := cell_lt d0
       have BS5 : wb.heap.size ≤ w5.heap.size := C5.size
       have hS : (fun u => u.cell? ⟨A, 4, none⟩ = some (.slice ap l.length qp) ∧ u.cell? ⟨g5, 0, none⟩ = some (.int .i64 x) ∧ u.cell? ⟨g5, 1, none⟩ = some (.int .i64 y) ∧ u.cell? ⟨g5, 2, none⟩ = some (.int .i64 z)) w5.drew := ⟨d2, d0, d1, d3⟩
       have hcp : 3 ≤ cp5 := by
        obtain ⟨_, ⟨e, e2⟩ | ⟨g, cap', cur, e, hg', _, hn', _⟩⟩ := o5
        ·simp at e2
        ·simp at e; simp at hn'; omega
       clear hg hc5 o5 p5 bx5 own5 C5 c0 c1 d0 d1 d2 d3
       go_wp2_with fail
       refine wp_region_last (fun u => u.cell? ⟨A, 4, none⟩ = some (.slice ap l.length qp) ∧ u.cell? ⟨g5, 0, none⟩ = some (.int .i64 x) ∧ u.cell? ⟨g5, 1, none⟩ = some (.int .i64 y) ∧ u.cell? ⟨g5, 2, none⟩ = some (.int .i64 z)) [_, _, _, _, _, _, _, _, _, _, _, _, _, _, _] _ rfl (by kernel_rfl) (by kernel_rfl) ?_
       have JD : Hid (OwnE w5.drew wb.heap.size 54 3 (.slice ap l.length qp) l.length (flatM l) ∧ w5.drew.heap[A]? = some (.cells #[.bool false, .slice none 0 0, .slice ac cs.length qc, .slice (some ⟨M, 0, none⟩) (k + 1) (k + 1), .slice ap l.length qp] 29 (0, 0)) ∧ Chg (fun g => g = P ∨ g = A) wb w5.drew ∧ PlaceIs w5.drew P q5) := ⟨J.out.1.below (Below.refl _ _).drew, J.out.2.1, J.out.2.2.1.drew, J.out.2.2.2⟩
       have hdl : w5.drew.heap.size = w5.heap.size := rfl
       have BSd : wb.heap.size ≤ w5.drew.heap.size := BS5
       have hg5d : g5 < w5.drew.heap.size := hg5lt
       clear J hdl
       generalize w5.drew = wd at *
       refine wpAnyH_take (i := 0) (oi := ⟨_, _, _, _, _, _⟩) (v := ?_) rfl (by kernel_rfl) (by kernel_rfl) (by kernel_rfl) (fun _ _ _ h => h) (Or.inl ⟨by rfl, ?_⟩) (by assumption) ?_
       rotate_left
       ·((intro w hSw; (try dsimp only at hSw); go_simp); (try with_reducible rfl))
       try simp only [Act.put, List.setIfInBounds_toArray, List.set_cons_zero, List.set_cons_succ]
       refine wpAnyH_take (i := 1) (oi := ⟨_, _, _, _, _, _⟩) (v := ?_) rfl (by kernel_rfl) (by kernel_rfl) (by kernel_rfl) (fun _ _ _ h => h) (Or.inl ⟨by rfl, ?_⟩) (by assumption) ?_
       rotate_left
       ·((intro w hSw; (try dsimp only at hSw); go_simp); (try with_reducible rfl))
       try simp only [Act.put, List.setIfInBounds_toArray, List.set_cons_zero, List.set_cons_succ]
       refine wpAnyH_take (i := 2) (oi := ⟨_, _, _, _, _, _⟩) (v := ?_) rfl (by kernel_rfl) (by kernel_rfl) (by kernel_rfl) (fun _ _ _ h => h) (Or.inl ⟨by rfl, ?_⟩) (by assumption) ?_
       rotate_left
       ·((intro w hSw; (try dsimp only at hSw); go_simp); (try with_reducible rfl))
       try simp only [Act.put, List.setIfInBounds_toArray, List.set_cons_zero, List.set_cons_succ]
       refine wpAnyH_take (i := 3) (oi := ⟨_, _, _, _, _, _⟩) (v := ?_) rfl (by kernel_rfl) (by kernel_rfl) (by kernel_rfl) (fun _ _ _ h => h) (Or.inl ⟨by rfl, ?_⟩) (by assumption) ?_
       rotate_left
       ·((intro w hSw; (try dsimp only at hSw); go_simp); (try with_reducible rfl))
       try simp only [Act.put, List.setIfInBounds_toArray, List.set_cons_zero, List.set_cons_succ]
       refine wpAnyH_take (i := 4) (oi := ⟨_, _, _, _, _, _⟩) (v := ?_) rfl (by kernel_rfl) (by kernel_rfl) (by kernel_rfl) (fun _ _ _ h => h) (Or.inl ⟨by rfl, ?_⟩) (by assumption) ?_
       rotate_left
       ·((intro w hSw; (try dsimp only at hSw); go_simp); (try with_reducible rfl))
       try simp only [Act.put, List.setIfInBounds_toArray, List.set_cons_zero, List.set_cons_succ]
       refine wpAnyH_take (i := 5) (oi := ⟨_, _, _, _, _, _⟩) (v := ?_) rfl (by kernel_rfl) (by kernel_rfl) (by kernel_rfl) (fun _ _ _ h => h) (Or.inl ⟨by rfl, ?_⟩) (by assumption) ?_
       rotate_left
       ·((intro w hSw; (try dsimp only at hSw); go_simp); (try with_reducible rfl))
       try simp only [Act.put, List.setIfInBounds_toArray, List.set_cons_zero, List.set_cons_succ]
       refine wpAnyH_take (i := 6) (oi := ⟨_, _, _, _, _, _⟩) (v := ?_) rfl (by kernel_rfl) (by kernel_rfl) (by kernel_rfl) (fun _ _ _ h => h) (Or.inl ⟨by rfl, ?_⟩) (by assumption) ?_
       rotate_left
       ·((intro w hSw; (try dsimp only at hSw); go_simp); (try with_reducible rfl))
       try simp only [Act.put, List.setIfInBounds_toArray, List.set_cons_zero, List.set_cons_succ]
       refine wpAnyH_take (i := 7) (oi := ⟨_, _, _, _, _, _⟩) (v := ?_) rfl (by kernel_rfl) (by kernel_rfl) (by kernel_rfl) (fun _ _ _ h => h) (Or.inl ⟨by rfl, ?_⟩) (by assumption) ?_
       rotate_left
       ·((intro w hSw; (try dsimp only at hSw); go_simp); (try with_reducible rfl))
       try simp only [Act.put, List.setIfInBounds_toArray, List.set_cons_zero, List.set_cons_succ]
       refine wpAnyH_take (i := 8) (oi := ⟨_, _, _, _, _, _⟩) (v := ?_) rfl (by kernel_rfl) (by kernel_rfl) (by kernel_rfl) (fun _ _ _ h => h) (Or.inl ⟨by rfl, ?_⟩) (by assumption) ?_
       rotate_left
       ·((intro w hSw; (try dsimp only at hSw); go_simp); (try with_reducible rfl))
       try simp only [Act.put, List.setIfInBounds_toArray, List.set_cons_zero, List.set_cons_succ]
       refine wpAnyH_take (i := 9) (oi := ⟨_, _, _, _, _, _⟩) (v := ?_) rfl (by kernel_rfl) (by kernel_rfl) (by kernel_rfl) (fun _ _ _ h => h) (Or.inl ⟨by rfl, ?_⟩) (by assumption) ?_
       rotate_left
       ·((intro w hSw; (try dsimp only at hSw); go_simp); (try with_reducible rfl))
       try simp only [Act.put, List.setIfInBounds_toArray, List.set_cons_zero, List.set_cons_succ]
       refine wpAnyH_take (i := 10) (oi := ⟨_, _, _, _, _, _⟩) (v := ?_) rfl (by kernel_rfl) (by kernel_rfl) (by kernel_rfl) (fun _ _ _ h => h) (Or.inl ⟨by rfl, ?_⟩) (by assumption) ?_
       rotate_left
       ·((intro w hSw; (try dsimp only at hSw); go_simp); (try with_reducible rfl))
       try simp only [Act.put, List.setIfInBounds_toArray, List.set_cons_zero, List.set_cons_succ]
       refine wpAnyH_take (i := 11) (oi := ⟨_, _, _, _, _, _⟩) (v := ?_) rfl (by kernel_rfl) (by kernel_rfl) (by kernel_rfl) (fun _ _ _ h => h) (Or.inl ⟨by rfl, ?_⟩) (by assumption) ?_
       rotate_left
       ·((intro w hSw; (try dsimp only at hSw); go_simp); (try with_reducible rfl))
       try simp only [Act.put, List.setIfInBounds_toArray, List.set_cons_zero, List.set_cons_succ]
       refine wpAnyH_ready (rs := [12]) (by kernel_rfl) (by simp) ?_
       refine AllReadyH.cons (o := ⟨_, _, _, _, _, _⟩) rfl (fun K hK => ?_) AllReadyH.nil
       go_simp
       refine hK.out _ _ ⟨cell_lowB (bel_new wd _) (cell_lt hS.1) hS.1, cell_lowB (bel_new wd _) (cell_lt hS.2.1) hS.2.1, cell_lowB (bel_new wd _) (cell_lt hS.2.2.1) hS.2.2.1, cell_lowB (bel_new wd _) (cell_lt hS.2.2.2) hS.2.2.2⟩ (fun hH => ?_)
       clear hK K
       try simp only [Act.put, List.setIfInBounds_toArray, List.set_cons_zero, List.set_cons_succ]
       refine wpAnyH_ready (rs := [13]) (by kernel_rfl) (by simp) ?_
       refine AllReadyH.cons (o := ⟨_, _, _, _, _, _⟩) rfl (fun K hK => ?_) AllReadyH.nil
       have HR1 : Hid _ := roomM (n := l.length) (m := 1) (by omega)
       refine step_appE (wd.alloc (.cells #[.int .i64 x, .int .i64 y, .int .i64 z] 54)) rfl _ _ 27 rfl wb.heap.size 54 i0 _ 3 24 Tryd.underlying27 hi hz0 hz1 hz2 rfl (by decide) (.slice ap l.length qp) l.length (flatM l) rfl (JD.out.1.below (bel_new _ _)) (.slice (some ⟨wd.heap.size, 0, none⟩) 1 1) 1 (flatM [(x, y, z)]) rfl (Row.laid wd (flatM [(x, y, z)]) 54 _ rfl) rfl (flatM_oneC _) HR1.out.1 HR1.out.2 (by simp; omega) ?_
       intro v6 w6 A6
       obtain ⟨own6, ch6, _, _⟩ := A6
       have hlo : ∀ g, wrB (.slice ap l.length qp) g → wb.heap.size ≤ g := fun g hg => (JD.out.1.lt g hg).1
       have bx6 : w6.heap[A]? = some (.cells #[.bool false, .slice none 0 0, .slice ac cs.length qc, .slice (some ⟨M, 0, none⟩) (k + 1) (k + 1), .slice ap l.length qp] 29 (0, 0)) := row_chg (row_chg JD.out.2.1 (Chg.of_below (F := fun _ => False) (bel_new wd _)) id) ch6 (fun e => by have := hlo _ e; omega)
       have m2 : w6.cell? ⟨A, 4, none⟩ = some (.slice ap l.length qp) := by rw [cell_of_cells bx6]; rfl
       have f2 : w6.frozen? ⟨A, 4, none⟩ = false := frozen_of_cells bx6
       have hg5n : ¬ wrB (.slice ap l.length qp) g5 := fun e => by have := (I.out.1.lt g5 e).2; omega
       have m0 : w6.cell? ⟨g5, 0, none⟩ = some (.int .i64 x) := cell_kept (cell_lowB (bel_new wd _) (cell_lt hS.2.1) hS.2.1) ch6 hg5n
       have m1 : w6.cell? ⟨g5, 1, none⟩ = some (.int .i64 y) := cell_kept (cell_lowB (bel_new wd _) (cell_lt hS.2.2.1) hS.2.2.1) ch6 hg5n
       have m3 : w6.cell? ⟨g5, 2, none⟩ = some (.int .i64 z) := cell_kept (cell_lowB (bel_new wd _) (cell_lt hS.2.2.2) hS.2.2.2) ch6 hg5n
       obtain ⟨a6, q6, hv6⟩ := own6.slice
       have own6' : OwnE w6 wb.heap.size 54 3 v6 (l ++ [(x, y, z)]).length (flatM (l ++ [(x, y, z)])) := by
        rw [flatM_append]; simpa using own6
       subst hv6
       have C6 : Chg (fun g => g = P ∨ g = A) wb w6 := ((JD.out.2.2.1).alloc _).trans ch6 (fun g hg e => by have := hlo g e; omega)
       have pl6 : PlaceIs w6 P q5 := by
        have h1 := (ch6.block P (by have := JD.out.2.2.2.lt; simp; omega) (fun e => by have := hlo P e; omega))
        unfold PlaceIs; rw [h1]; exact (JD.out.2.2.2.below (bel_new wd _))
       have bxs := heap_setCell_same w6 (A) 4 _ _ (.slice a6 (l.length + 1) q6) bx6
       have FIN : Hid (OwnE (w6.setCell ⟨A, 4, none⟩ (.slice a6 (l.length + 1) q6)) wb.heap.size 54 3 (.slice a6 (l.length + 1) q6) (l ++ [(x, y, z)]).length (flatM (l ++ [(x, y, z)])) ∧ PlaceIs (w6.setCell ⟨A, 4, none⟩ (.slice a6 (l.length + 1) q6)) P q5 ∧ (w6.setCell ⟨A, 4, none⟩ (.slice a6 (l.length + 1) q6)).heap[A]? = some (.cells #[.bool false, .slice none 0 0, .slice ac cs.length qc, .slice (some ⟨M, 0, none⟩) (k + 1) (k + 1), .slice a6 (l.length + 1) q6] 29 (0, 0)) ∧ Chg (fun g => g = P ∨ g = A) wb (w6.setCell ⟨A, 4, none⟩ (.slice a6 (l.length + 1) q6))) := by
        have hcs : Chg (fun g => g = A) w6 (w6.setCell ⟨A, 4, none⟩ (.slice a6 (l.length + 1) q6)) := (Chg.refl (fun g => g = A) w6).setAt (A) 4 rfl _
        refine ⟨own6'.chg hcs (fun g hg e => by have := (own6'.lt g hg).1; omega), ?_, by simpa using bxs, C6.trans hcs (fun _ _ h => .inr h)⟩
        unfold PlaceIs
        rw [hcs.block P pl6.lt (by omega)]
        exact pl6
       clear own6 own6' ch6 bx6 bxs C6 pl6 hlo JD hg5n
       refine hK.out _ _ ⟨m2, m0, m1, m3⟩ (fun hH => ?_)
       clear hK K
       try simp only [Act.put, List.setIfInBounds_toArray, List.set_cons_zero, List.set_cons_succ]
       refine wpAnyH_take (i := 14) (oi := ⟨_, _, _, _, _, _⟩) (v := ?_) rfl (by kernel_rfl) (by kernel_rfl) (by kernel_rfl) (fun _ _ _ h => h) (Or.inl ⟨by rfl, ?_⟩) (by assumption) ?_
       rotate_left
       ·((intro w hSw; (try dsimp only at hSw); go_simp); (try with_reducible rfl))
       try simp only [Act.put, List.setIfInBounds_toArray, List.set_cons_zero, List.set_cons_succ]
       refine wpAnyH_done (by kernel_rfl) ?_ _
       show Oper.wp _ _ _ _ _ _
       go_simp
       go_wp2
       go_roundw
       case rel => exact ⟨j + 1, l ++ [(x, y, z)], q5, _, by omega, by go_num, GN.out, FIN.out.1, FIN.out.2.1, FIN.out.2.2.1, FIN.out.2.2.2⟩
       case measure => simp [intOf]; omega
     ·have hkk : j = n := by omega
      subst hkk
      have hz : wr.heap[w.heap.size + 1]? = some (Obj.cells #[.bool false, .slice none 0 0, .slice none 0 0, .slice none 0 0, .slice none 0 0] 29 (0, 0)) := row_chg HB.out.2.2.1 I.out.2.2.1 (by omega)
      have k2 : ∀ i, wr.cell? ⟨A, i, none⟩ = #[Value.bool false, .slice none 0 0, .slice ac cs.length qc, .slice (some ⟨M, 0, none⟩) (k + 1) (k + 1), .slice ap l.length qp][i]? := fun i => cell_of_cells hbx
      have k1 : ∀ i, wr.cell? ⟨w.heap.size + 1, i, none⟩ = #[Value.bool false, .slice none 0 0, .slice none 0 0, .slice none 0 0, .slice none 0 0][i]? := fun i => cell_of_cells hz
      have f1 : ∀ i, wr.frozen? ⟨w.heap.size + 1, i, none⟩ = false := fun i => frozen_of_cells hz
      have HZ : Hid _ := And.intro hpl hz
      clear hpl hbx hz
      go_wp2
      have hS5 := sef5_at (.bool false) (.slice none 0 0) (.slice ac cs.length qc) (.slice (some ⟨M, 0, none⟩) (k + 1) (k + 1)) (.slice ap l.length qp) HZ.out.2
      have hC5 := sef5_chg wr (w.heap.size + 1) (.bool false) (.slice none 0 0) (.slice ac cs.length qc) (.slice (some ⟨M, 0, none⟩) (k + 1) (k + 1)) (.slice ap l.length qp)
      unfold sef5 at hS5 hC5
      have kk : ∀ i, (((((wr.setCell ⟨w.heap.size + 1, 0, none⟩ (.bool false)).setCell ⟨w.heap.size + 1, 1, none⟩ (.slice none 0 0)).setCell ⟨w.heap.size + 1, 2, none⟩ (.slice ac cs.length qc)).setCell ⟨w.heap.size + 1, 3, none⟩ (.slice (some ⟨M, 0, none⟩) (k + 1) (k + 1))).setCell ⟨w.heap.size + 1, 4, none⟩ (.slice ap l.length qp)).cell? ⟨w.heap.size + 1, i, none⟩ = #[Value.bool false, .slice none 0 0, .slice ac cs.length qc, .slice (some ⟨M, 0, none⟩) (k + 1) (k + 1), .slice ap l.length qp][i]? := fun i => cell_of_cells hS5
      generalize (((((wr.setCell ⟨w.heap.size + 1, 0, none⟩ (.bool false)).setCell ⟨w.heap.size + 1, 1, none⟩ (.slice none 0 0)).setCell ⟨w.heap.size + 1, 2, none⟩ (.slice ac cs.length qc)).setCell ⟨w.heap.size + 1, 3, none⟩ (.slice (some ⟨M, 0, none⟩) (k + 1) (k + 1))).setCell ⟨w.heap.size + 1, 4, none⟩ (.slice ap l.length qp)) = WF at *
      refine bodyPost_ret (v := .tuple #[.agg #[Value.bool false, .slice none 0 0, .slice ac cs.length qc, .slice (some ⟨M, 0, none⟩) (k + 1) (k + 1), .slice ap l.length qp], .slice ak ks.length qk]) (by simp [results, Tryd.results37, go_sem, kk]) rfl ?_
      rw [G6.out, HN.out]
      have CB := I.out.2.2.1
      refine ⟨⟨.slice ac cs.length qc, .slice ap l.length qp, .slice ak ks.length qk, M, w4.heap.size, by rw [hks.out], by omega, ?_, ?_, ?_, ?_, by omega, ?_, ?_⟩, I.out.2.2.2.trans hC5 (fun g hg e => by omega)⟩
      ·exact owns_mono (owns_chg (owns_chg KB.out.1 CB (fun g hg e => by have := (World.ownsRow.lt KB.out.1 g hg).1; have := KB.out.2 g hg; omega)) hC5 (fun g hg e => by have := (World.ownsRow.lt KB.out.1 g hg).1; omega)) (by omega)
      ·exact fun g hg => KB.out.2 g hg
      ·exact owns_chg (owns_chg CUT.out.1 CB (fun g hg e => by have := (World.ownsRow.lt CUT.out.1 g hg).1; rcases e with e | e; omega; exact CUT.out.2 (e ▸ hg))) hC5 (fun g hg e => by have := (World.ownsRow.lt CUT.out.1 g hg).1; omega)
      ·exact (I.out.1.chg hC5 (fun g hg e => by have := (I.out.1.lt g hg).1; omega)).mono (by omega)
      ·rw [hks.out]
       exact row_chg (row_chg MB.out CB (by omega)) hC5 (by omega)
      ·unfold PlaceIs
       rw [hC5.block P HZ.out.1.lt (by omega)]
       exact HZ.out.1
end
end Go.Proofs.YtbmcojelgbkafaaDoor
