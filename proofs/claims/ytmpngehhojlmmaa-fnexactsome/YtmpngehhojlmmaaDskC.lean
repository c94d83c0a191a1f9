/-
  The model's copy of a disk.
-/
import Derived.Test.YtmpngehhojlmmaaFloatD
import Derived.Test.YtmpngehhojlmmaaDskG
import Derived.Deep.DeepCutAuto
namespace Go.Proofs.Ytmpngehhojlmmaa
open Go.RowKit

theorem wp_gen {P : Program} {code : Code} {Q : Exit → Act → World → Prop} {a : Act} {w0 : World} (S : World → Prop) (h0 : S w0) (h : ∀ W, S W → Code.wp P code Q a W) : Code.wp P code Q a w0 := h _ h0
/-- the disk's rows are memory of its own, or empty -/
def DiskE (w : World) (base : Nat) (v : Value) (P : PL) (S : SL) : Prop := ∃ vp vs, v = .agg #[vp, vs] ∧ OwnE w base 9 1 vp P.length (flatS P) ∧ OwnE w base 33 2 vs S.length (flatP S)

theorem ownE_ne {w : World} {base e size n : Nat} {v : Value} {xs : List Value} (h : OwnE w base e size v n xs) {B : Nat} {c : Array Value} {t : Nat} (hB : w.heap[B]? = some (.cells c t)) (ht : t ≠ e) {g : Nat} (hg : wrB v g) : ¬ g = B := by
  rintro rfl
  obtain ⟨k, cap, rfl, hc⟩ := hg
  rcases h with h | ⟨_, _, g', h'⟩
  · obtain ⟨_, c1, e1⟩ := owns_lt h (g := g) rfl
    rw [e1] at hB
    simp at hB
    exact ht hB.2.symm
  · simp at h'; omega

set_option maxRecDepth 100000 in
set_option maxHeartbeats 1000000 in
theorem l6Copy_any (v : Value) (P : PL) (S : SL) (w : World) (hd : DiskRow w v P S) (hP : P.length ≤ 1048576) (hS : S.length ≤ 1048576) :
    Calls Try.prog 29 #[v] w fun e w' => ∃ v', e = .returned v' ∧ DiskE w' w.heap.size v' P S ∧ Below w.heap.size w w' := by
  obtain ⟨vp, vs, rfl, r1, r2⟩ := hd
  obtain ⟨i1, hi1, hw10, hw11, hw12⟩ := info_parts Try.info9
  obtain ⟨i2, hi2, hw20, hw21, hw22⟩ := info_parts Try.info33
  obtain ⟨a1, q1, rfl, _, _⟩ := r1.len
  obtain ⟨a2, q2, rfl, _, _⟩ := r2.len
  have R1 : Hid (∀ u, Below w.heap.size w u → Row u (.slice a1 P.length q1) P.length (flatS P)) := fun u hu => r1.below hu
  have R2 : Hid (∀ u, Below w.heap.size w u → Row u (.slice a2 S.length q2) S.length (flatP S)) := fun u hu => r2.below hu
  have L1 : Hid ((flatS P).length = P.length * 1) := by show _ = _; rw [flatS_length]; omega
  have L2 : Hid ((flatP S).length = S.length * 2) := flatP_length _
  have O1 : Hid _ := flatS_one P
  have O2 : Hid _ := flatP_one S
  have Z1 : Hid _ := room_row (n := P.length) (bytes := 16) (by omega) (by decide)
  have Z2 : Hid _ := room_row (n := S.length) (bytes := 16) (by omega) (by decide)
  clear r1 r2
  have GS : Hid _ := Gd.start w (.cells #[.slice a1 P.length q1, .slice a2 S.length q2] 27) (.cells #[.slice none 0 0, .slice none 0 0] 27)
  go_enter Try.func29, Try.ntmps29
  go_wp2_with fail
  refine wp_gen (Gd w (.cells #[.slice a1 P.length q1, .slice a2 S.length q2] 27) (.cells #[.slice none 0 0, .slice none 0 0] 27)) GS.out ?_
  rintro W ⟨YB, YS, YA, YR⟩
  clear GS
  have YZ : Hid (w.heap.size ≤ W.heap.size) := YB.size
  have BW : Hid (∀ u, Below W.heap.size W u → Below w.heap.size w u) := fun u hu => Below.and YB hu
  have HR : Hid _ := And.intro YR YS
  have KEEP : Hid (∀ u, Below W.heap.size W u → u.cell? ⟨w.heap.size, 0, none⟩ = some (.slice a1 P.length q1) ∧ u.cell? ⟨w.heap.size, 1, none⟩ = some (.slice a2 S.length q2) ∧ Hid (Below W.heap.size W u)) := fun u hu => ⟨cell_of_cells ((hu.block _ (by omega)).trans YA), cell_of_cells ((hu.block _ (by omega)).trans YA), hu⟩
  have KB : Hid (∀ u, u.cell? ⟨w.heap.size, 0, none⟩ = some (.slice a1 P.length q1) ∧ u.cell? ⟨w.heap.size, 1, none⟩ = some (.slice a2 S.length q2) ∧ Hid (Below W.heap.size W u) → Below W.heap.size W u) := fun u h => h.2.2.out
  have KA : Hid (∀ (u : World) (o : Obj), u.cell? ⟨w.heap.size, 0, none⟩ = some (.slice a1 P.length q1) ∧ u.cell? ⟨w.heap.size, 1, none⟩ = some (.slice a2 S.length q2) ∧ Hid (Below W.heap.size W u) → (u.alloc o).cell? ⟨w.heap.size, 0, none⟩ = some (.slice a1 P.length q1) ∧ (u.alloc o).cell? ⟨w.heap.size, 1, none⟩ = some (.slice a2 S.length q2) ∧ Hid (Below W.heap.size W (u.alloc o))) := fun u o h => KEEP.out _ (Below.and (KB.out u h) (bel_al (Below.refl _ _) _))
  replace R1 : Hid (∀ u, Below W.heap.size W u → Row u (.slice a1 P.length q1) P.length (flatS P)) := fun u hu => R1.out u (BW.out u hu)
  replace R2 : Hid (∀ u, Below W.heap.size W u → Row u (.slice a2 S.length q2) S.length (flatP S)) := fun u hu => R2.out u (BW.out u hu)
  have hS : W.drew.cell? ⟨w.heap.size, 0, none⟩ = some (.slice a1 P.length q1) ∧ W.drew.cell? ⟨w.heap.size, 1, none⟩ = some (.slice a2 S.length q2) ∧ Hid (Below W.heap.size W W.drew) := KEEP.out W.drew (Below.refl _ _).drew
  clear YB YS YA YR
  go_cut [] (fun wx => ∃ (b1 b2 : Option Addr) (p1 p2 : Nat), wx.heap[w.heap.size + 1]? = some (.cells #[.slice b1 P.length p1, .slice b2 S.length p2] 27) ∧ Hid (OwnE wx w.heap.size 9 1 (.slice b1 P.length p1) P.length (flatS P)) ∧ Hid (OwnE wx w.heap.size 33 2 (.slice b2 S.length p2) S.length (flatP S)) ∧ Hid (Below w.heap.size w wx))
  case first =>
    refine wp_region_last (fun u => u.cell? ⟨w.heap.size, 0, none⟩ = some (.slice a1 P.length q1) ∧ u.cell? ⟨w.heap.size, 1, none⟩ = some (.slice a2 S.length q2) ∧ Hid (Below W.heap.size W u)) [_, _, _, _, _, _, _, _, _] _ rfl (by kernel_rfl) (by kernel_rfl) ?_
    refine wpAnyH_take (i := 1) (oi := ⟨_, _, _, _, _, _⟩) (v := ?_) rfl (by kernel_rfl) (by kernel_rfl) (by kernel_rfl) (fun _ _ _ h => h) (Or.inl ⟨by rfl, ?_⟩) (by assumption) ?_
    rotate_left
    · ((intro w hSw; (try dsimp only at hSw); go_simp); (try with_reducible rfl))
    try simp only [Act.put, List.setIfInBounds_toArray, List.set_cons_zero, List.set_cons_succ]
    refine wpAnyH_take (i := 2) (oi := ⟨_, _, _, _, _, _⟩) (v := ?_) rfl (by kernel_rfl) (by kernel_rfl) (by kernel_rfl) (fun _ _ _ h => h) (Or.inl ⟨by rfl, ?_⟩) (by assumption) ?_
    rotate_left
    · ((intro w hSw; (try dsimp only at hSw); go_simp); (try with_reducible rfl))
    try simp only [Act.put, List.setIfInBounds_toArray, List.set_cons_zero, List.set_cons_succ]
    refine wpAnyH_take (i := 5) (oi := ⟨_, _, _, _, _, _⟩) (v := ?_) rfl (by kernel_rfl) (by kernel_rfl) (by kernel_rfl) (fun _ _ _ h => h) (Or.inl ⟨by rfl, ?_⟩) (by assumption) ?_
    rotate_left
    · ((intro w hSw; (try dsimp only at hSw); go_simp); (try with_reducible rfl))
    try simp only [Act.put, List.setIfInBounds_toArray, List.set_cons_zero, List.set_cons_succ]
    refine wpAnyH_take (i := 6) (oi := ⟨_, _, _, _, _, _⟩) (v := ?_) rfl (by kernel_rfl) (by kernel_rfl) (by kernel_rfl) (fun _ _ _ h => h) (Or.inl ⟨by rfl, ?_⟩) (by assumption) ?_
    rotate_left
    · ((intro w hSw; (try dsimp only at hSw); go_simp); (try with_reducible rfl))
    try simp only [Act.put, List.setIfInBounds_toArray, List.set_cons_zero, List.set_cons_succ]
    refine wpR.held ?_ (by assumption)
    refine wpR_take (i := 0) (oi := ⟨_, _, _, _, _, _⟩) (fun v => ∃ g, v = .slice (some ⟨g, 0, none⟩) 0 0) rfl (by kernel_rfl) (by kernel_rfl) (by kernel_rfl) (fun _ _ _ _ h => h) (fun u hu => ⟨.slice (some ⟨u.heap.size, 0, none⟩) 0 0, u.alloc (.cells #[] 9), (by go_simp), ⟨_, rfl⟩, bel_al (Below.refl _ _) _, KA.out u _ hu⟩) ?_
    rintro _ ⟨g1, rfl⟩
    try simp only [Act.put, List.setIfInBounds_toArray, List.set_cons_zero, List.set_cons_succ]
    refine wpR_take (i := 4) (oi := ⟨_, _, _, _, _, _⟩) (fun v => ∃ g, v = .slice (some ⟨g, 0, none⟩) 0 0) rfl (by kernel_rfl) (by kernel_rfl) (by kernel_rfl) (fun _ _ _ _ h => h) (fun u hu => ⟨.slice (some ⟨u.heap.size, 0, none⟩) 0 0, u.alloc (.cells #[] 33), (by go_simp), ⟨_, rfl⟩, bel_al (Below.refl _ _) _, KA.out u _ hu⟩) ?_
    rintro _ ⟨g2, rfl⟩
    try simp only [Act.put, List.setIfInBounds_toArray, List.set_cons_zero, List.set_cons_succ]
    refine wpR_one (i := 3) (o := ⟨_, _, _, _, _, _⟩) (by kernel_rfl) rfl (fun u1 hu1 su1 K hK => ?_)
    refine step_appE u1 rfl _ _ 24 rfl w.heap.size 9 i1 _ 1 16 Try.underlying24 hi1 hw10 hw11 hw12 rfl (by decide) (.slice (some ⟨g1, 0, none⟩) 0 0) 0 [] rfl (OwnE.zero _ _ _ _ _) (.slice a1 P.length q1) P.length (flatS P) rfl (R1.out _ (KB.out _ su1)) L1.out O1.out Z1.out.1 Z1.out.2 (Nat.le_trans YZ.out (KB.out _ su1).size) ?_
    intro vx1 x1 Ax1
    have Px1 : Later u1 x1 := Ax1.2.1.below (fun g _ h => absurd h (wrB_zero _ _)) (Nat.le_refl _)
    have Qx1 := Ax1.1
    rw [Nat.zero_add, List.nil_append] at Qx1
    obtain ⟨b1, p1, hv⟩ := Qx1.slice
    subst hv
    have D1 : Hid (∀ z, Later x1 z → OwnE z w.heap.size 9 1 (.slice b1 P.length p1) P.length (flatS P)) := fun z hz => Qx1.below hz
    have Sx1 := KEEP.out x1 (Below.and (KB.out _ su1) Px1)
    clear Ax1 Qx1 su1 hu1 Px1
    refine hK.out _ _ Sx1 ?_
    clear hK K
    try simp only [Act.put, List.setIfInBounds_toArray, List.set_cons_zero, List.set_cons_succ]
    clear Sx1
    refine wpR_one (i := 7) (o := ⟨_, _, _, _, _, _⟩) (by kernel_rfl) rfl (fun u2 hu2 su2 K hK => ?_)
    refine step_appE u2 rfl _ _ 25 rfl w.heap.size 33 i2 _ 2 16 Try.underlying25 hi2 hw20 hw21 hw22 rfl (by decide) (.slice (some ⟨g2, 0, none⟩) 0 0) 0 [] rfl (OwnE.zero _ _ _ _ _) (.slice a2 S.length q2) S.length (flatP S) rfl (R2.out _ (KB.out _ su2)) L2.out O2.out Z2.out.1 Z2.out.2 (Nat.le_trans YZ.out (KB.out _ su2).size) ?_
    intro vx2 x2 Ax2
    have Px2 : Later u2 x2 := Ax2.2.1.below (fun g _ h => absurd h (wrB_zero _ _)) (Nat.le_refl _)
    have Qx2 := Ax2.1
    rw [Nat.zero_add, List.nil_append] at Qx2
    obtain ⟨b2, p2, hv⟩ := Qx2.slice
    subst hv
    have D2 : Hid (∀ z, Later x2 z → OwnE z w.heap.size 33 2 (.slice b2 S.length p2) S.length (flatP S)) := fun z hz => Qx2.below hz
    replace D1 : Hid (∀ z, Later x2 z → OwnE z w.heap.size 9 1 (.slice b1 P.length p1) P.length (flatS P)) := fun z hz => D1.out z ((hu2.trans Px2).trans hz)
    have Sx2 := KEEP.out x2 (Below.and (KB.out _ su2) Px2)
    clear Ax2 Qx2 su2 hu2 Px2
    refine hK.out _ _ Sx2 ?_
    clear hK K
    try simp only [Act.put, List.setIfInBounds_toArray, List.set_cons_zero, List.set_cons_succ]
    clear Sx2
    refine wpR_take (i := 8) (oi := ⟨_, _, _, _, _, _⟩) (fun v => v = .agg #[.slice b1 P.length p1, .slice b2 S.length p2]) rfl (by kernel_rfl) (by kernel_rfl) (by kernel_rfl) (fun _ _ _ _ h => h) (fun u hu => ⟨_, u, (by go_simp; try rfl), rfl, Later.refl _, hu⟩) ?_
    rintro _ rfl
    try simp only [Act.put, List.setIfInBounds_toArray, List.set_cons_zero, List.set_cons_succ]
    refine wpR_done (by kernel_rfl) (fun u5 hu5 su5 => ?_) _
    show Oper.wp _ _ _ _ _ _
    have XU : u5.heap[w.heap.size + 1]? = some (.cells #[.slice none 0 0, .slice none 0 0] 27) := ((KB.out _ su5).block _ HR.out.2).trans HR.out.1
    have m0 : u5.cell? ⟨w.heap.size + 1, 0, none⟩ = some (.slice none 0 0) := cell_of_cells XU
    have m1 : u5.cell? ⟨w.heap.size + 1, 1, none⟩ = some (.slice none 0 0) := cell_of_cells XU
    have k0 : u5.frozen? ⟨w.heap.size + 1, 0, none⟩ = false := frozen_of_cells XU
    have k1 : u5.frozen? ⟨w.heap.size + 1, 1, none⟩ = false := frozen_of_cells XU
    have FIN : Hid (OwnE ((u5.setCell ⟨w.heap.size + 1, 0, none⟩ (.slice b1 P.length p1)).setCell ⟨w.heap.size + 1, 1, none⟩ (.slice b2 S.length p2)) w.heap.size 9 1 (.slice b1 P.length p1) P.length (flatS P) ∧ OwnE ((u5.setCell ⟨w.heap.size + 1, 0, none⟩ (.slice b1 P.length p1)).setCell ⟨w.heap.size + 1, 1, none⟩ (.slice b2 S.length p2)) w.heap.size 33 2 (.slice b2 S.length p2) S.length (flatP S) ∧ Below w.heap.size w ((u5.setCell ⟨w.heap.size + 1, 0, none⟩ (.slice b1 P.length p1)).setCell ⟨w.heap.size + 1, 1, none⟩ (.slice b2 S.length p2)) ∧ ((u5.setCell ⟨w.heap.size + 1, 0, none⟩ (.slice b1 P.length p1)).setCell ⟨w.heap.size + 1, 1, none⟩ (.slice b2 S.length p2)).heap[w.heap.size + 1]? = some (.cells #[.slice b1 P.length p1, .slice b2 S.length p2] 27)) := by
      have ch : Chg (fun g => g = w.heap.size + 1) u5 ((u5.setCell ⟨w.heap.size + 1, 0, none⟩ (.slice b1 P.length p1)).setCell ⟨w.heap.size + 1, 1, none⟩ (.slice b2 S.length p2)) := ((Chg.refl (fun g => g = w.heap.size + 1) _).setAt (w.heap.size + 1) 0 rfl _).setAt (w.heap.size + 1) 1 rfl _
      exact ⟨(D1.out u5 hu5).chg ch (fun g hg => ownE_ne (D1.out u5 hu5) XU (by decide) hg), (D2.out u5 hu5).chg ch (fun g hg => ownE_ne (D2.out u5 hu5) XU (by decide) hg),
        (((BW.out _ (KB.out _ su5))).setCell (p := ⟨w.heap.size + 1, 0, none⟩) (by show w.heap.size ≤ w.heap.size + 1; omega) _).setCell (p := ⟨w.heap.size + 1, 1, none⟩) (by show w.heap.size ≤ w.heap.size + 1; omega) _,
        heap_setCell_same _ _ 1 _ _ _ (heap_setCell_same u5 _ 0 _ _ _ XU)⟩
    clear D1 D2 XU
    go_simp
    go_wp2_with fail
    go_meet
    case rel => exact ⟨b1, b2, p1, p2, FIN.out.2.2.2, FIN.out.1, FIN.out.2.1, FIN.out.2.2.1⟩
  case rest =>
    obtain ⟨b1, b2, p1, p2, hh, h1, h2, h3⟩ := hcut
    have m0 : wc.cell? ⟨w.heap.size + 1, 0, none⟩ = some (.slice b1 P.length p1) := cell_of_cells hh
    have m1 : wc.cell? ⟨w.heap.size + 1, 1, none⟩ = some (.slice b2 S.length p2) := cell_of_cells hh
    go_wp2
    refine bodyPost_ret (v := .agg #[.slice b1 P.length p1, .slice b2 S.length p2]) (by simp [results, Try.results29, go_sem, m0, m1]) rfl ⟨_, rfl, ⟨_, _, rfl, h1.out, h2.out⟩, h3.out⟩

end Go.Proofs.Ytmpngehhojlmmaa
