/-
  The model's copy of a disk.
  The model's Do.
  Lists of truths: the laws' functions on them.
-/
import Derived.Test.YtekcnibohikmdaaOfWrites6
import Derived.Test.YtekcnibohikmdaaOfWrites10
import Derived.Test.YtekcnibohikmdaaOfWrites3
import Derived.Deep.DeepCutAuto
import Derived.Test.YtekcnibohikmdaaOfWrites1
import Derived.Deep.QuietTactic
import Derived.BigQuiet
namespace Go.Proofs.Ytekcnibohikmdaa
set_option maxRecDepth 100000
set_option maxHeartbeats 8000000
section
open Go.RowKit

def DiskE (w : World) (base : Nat) (v : Value) (P : PgL) (S : SL) : Prop := ∃ vp vs, v = .agg #[vp, vs] ∧ OwnE w base 9 1 vp P.length (flatS P) ∧ OwnE w base 33 2 vs S.length (flatP S)

theorem ownE_ne {w : World} {base e size n : Nat} {v : Value} {xs : List Value} (h : OwnE w base e size v n xs) {B : Nat} {c : Array Value} {t : Nat} (hB : w.heap[B]? = some (.cells c t)) (ht : t ≠ e) {g : Nat} (hg : wrB v g) : ¬ g = B := by
 rintro rfl
 obtain ⟨k, cap, rfl, hc⟩ := hg
 rcases h with h | ⟨_, _, g', h'⟩
 ·obtain ⟨_, c1, e1⟩ := owns_lt h (g := g) rfl
  rw [e1] at hB
  simp at hB
  exact ht hB.2.symm
 ·simp at h'; omega

theorem l6Copy_any (v : Value) (P : PgL) (S : SL) (w : World) (hd : DiskRow w v P S) (hP : P.length ≤ 1048576) (hS : S.length ≤ 1048576) :
  Calls Try.prog 15 #[v] w fun e w' => ∃ v', e = .returned v' ∧ DiskE w' w.heap.size v' P S ∧ Below w.heap.size w w' := by
 obtain ⟨vp, vs, rfl, r1, r2⟩ := hd
 obtain ⟨i1, hi1, hw10, hw11, hw12⟩ := info_parts Try.info9
 obtain ⟨i2, hi2, hw20, hw21, hw22⟩ := info_parts Try.info33
 obtain ⟨a1, q1, rfl, _, _⟩ := r1.lenq
 obtain ⟨a2, q2, rfl, _, _⟩ := r2.lenq
 have R1 : Hid (∀ u, Below w.heap.size w u → Row u (.slice a1 P.length q1) P.length (flatS P)) := fun u hu => r1.below hu
 have R2 : Hid (∀ u, Below w.heap.size w u → Row u (.slice a2 S.length q2) S.length (flatP S)) := fun u hu => r2.below hu
 have L1 : Hid ((flatS P).length = P.length * 1) := by show _ = _; rw [flatS_length]; omega
 have L2 : Hid ((flatP S).length = S.length * 2) := flatP_length _
 have O1 : Hid _ := flatS_one P
 have O2 : Hid _ := flatP_one S
 have Z1 : Hid _ := room_row (n := P.length) (bytes := 16) (by omega) (by decide)
 have Z2 : Hid _ := room_row (n := S.length) (bytes := 16) (by omega) (by decide)
 clear r1 r2
 have GS : Hid _ := Gd.start w (.cells #[.slice a1 P.length q1, .slice a2 S.length q2] 27) (.cells #[.slice none 0 0, .slice none 0 0] 27)
 go_enter Try.func15, Try.ntmps15
 go_wp2_with fail
 refine wp_gen (Gd w (.cells #[.slice a1 P.length q1, .slice a2 S.length q2] 27) (.cells #[.slice none 0 0, .slice none 0 0] 27)) GS.out ?_
 rintro W ⟨YB, YS, YA, YR⟩
 clear GS
 have YZ : Hid (w.heap.size ≤ W.heap.size) := YB.size
 have BW : Hid (∀ u, Below W.heap.size W u → Below w.heap.size w u) := fun u hu => Below.and YB hu
 have HR : Hid _ := And.intro YR YS
 have KEEP : Hid (∀ u, Below W.heap.size W u → u.cell? ⟨w.heap.size, 0, none⟩ = some (.slice a1 P.length q1) ∧ u.cell? ⟨w.heap.size, 1, none⟩ = some (.slice a2 S.length q2) ∧ Hid (Below W.heap.size W u)) := fun u hu => ⟨cell_of_cells ((hu.block _ (by omega)).trans YA), cell_of_cells ((hu.block _ (by omega)).trans YA), hu⟩
 have KB : Hid (∀ u, u.cell? ⟨w.heap.size, 0, none⟩ = some (.slice a1 P.length q1) ∧ u.cell? ⟨w.heap.size, 1, none⟩ = some (.slice a2 S.length q2) ∧ Hid (Below W.heap.size W u) → Below W.heap.size W u) := fun u h => h.2.2.out
 have KA : Hid (∀ (u : World) (o : Obj), u.cell? ⟨w.heap.size, 0, none⟩ = some (.slice a1 P.length q1) ∧ u.cell? ⟨w.heap.size, 1, none⟩ = some (.slice a2 S.length q2) ∧ Hid (Below W.heap.size W u) → (u.alloc o).cell? ⟨w.heap.size, 0, none⟩ = some (.slice a1 P.length q1) ∧ (u.alloc o).cell? ⟨w.heap.size, 1, none⟩ = some (.slice a2 S.length q2) ∧ Hid (Below W.heap.size W (u.alloc o))) := fun u o h => KEEP.out _ (Below.and (KB.out u h) (bel_al (Below.refl _ _) _))
 replace R1 : Hid (∀ u, Below W.heap.size W u → Row u (.slice a1 P.length q1) P.length (flatS P)) := fun u hu => R1.out u (BW.out u hu)
 replace R2 : Hid (∀ u, Below W.heap.size W u → Row u (.slice a2 S.length q2) S.length (flatP S)) := fun u hu => R2.out u (BW.out u hu)
 have hS : W.drew.cell? ⟨w.heap.size, 0, none⟩ = some (.slice a1 P.length q1) ∧ W.drew.cell? ⟨w.heap.size, 1, none⟩ = some (.slice a2 S.length q2) ∧ Hid (Below W.heap.size W W.drew) := KEEP.out W.drew (Below.refl _ _).drew
 clear YB YS YA YR
 go_cut [] (fun wx => ∃ (b1 b2 : Option Addr) (p1 p2 : Nat), wx.heap[w.heap.size + 1]? = some (.cells #[.slice b1 P.length p1, .slice b2 S.length p2] 27) ∧ Hid (OwnE wx w.heap.size 9 1 (.slice b1 P.length p1) P.length (flatS P)) ∧ Hid (OwnE wx w.heap.size 33 2 (.slice b2 S.length p2) S.length (flatP S)) ∧ Hid (Below w.heap.size w wx))
 case first =>
  refine wp_region_last (fun u => u.cell? ⟨w.heap.size, 0, none⟩ = some (.slice a1 P.length q1) ∧ u.cell? ⟨w.heap.size, 1, none⟩ = some (.slice a2 S.length q2) ∧ Hid (Below W.heap.size W u)) [_, _, _, _, _, _, _, _, _] _ rfl (by kernel_rfl) (by kernel_rfl) ?_
  refine wpAnyH_take (i := 1) (oi := ⟨_, _, _, _, _, _⟩) (v := ?_) rfl (by kernel_rfl) (by kernel_rfl) (by kernel_rfl) (fun _ _ _ h => h) (Or.inl ⟨by rfl, ?_⟩) (by assumption) ?_
  rotate_left
  ·((intro w hSw; (try dsimp only at hSw); go_simp); (try with_reducible rfl))
  try simp only [Act.put, List.setIfInBounds_toArray, List.set_cons_zero, List.set_cons_succ]
  refine wpAnyH_take (i := 2) (oi := ⟨_, _, _, _, _, _⟩) (v := ?_) rfl (by kernel_rfl) (by kernel_rfl) (by kernel_rfl) (fun _ _ _ h => h) (Or.inl ⟨by rfl, ?_⟩) (by assumption) ?_
  rotate_left
  ·((intro w hSw; (try dsimp only at hSw); go_simp); (try with_reducible rfl))
  try simp only [Act.put, List.setIfInBounds_toArray, List.set_cons_zero, List.set_cons_succ]
  refine wpAnyH_take (i := 5) (oi := ⟨_, _, _, _, _, _⟩) (v := ?_) rfl (by kernel_rfl) (by kernel_rfl) (by kernel_rfl) (fun _ _ _ h => h) (Or.inl ⟨by rfl, ?_⟩) (by assumption) ?_
  rotate_left
  ·((intro w hSw; (try dsimp only at hSw); go_simp); (try with_reducible rfl))
  try simp only [Act.put, List.setIfInBounds_toArray, List.set_cons_zero, List.set_cons_succ]
  refine wpAnyH_take (i := 6) (oi := ⟨_, _, _, _, _, _⟩) (v := ?_) rfl (by kernel_rfl) (by kernel_rfl) (by kernel_rfl) (fun _ _ _ h => h) (Or.inl ⟨by rfl, ?_⟩) (by assumption) ?_
  rotate_left
  ·((intro w hSw; (try dsimp only at hSw); go_simp); (try with_reducible rfl))
  try simp only [Act.put, List.setIfInBounds_toArray, List.set_cons_zero, List.set_cons_succ]
  refine wpR.held ?_ (by assumption)
  refine wpR_take (i := 0) (oi := ⟨_, _, _, _, _, _⟩) (fun v => ∃ g, v = .slice (some ⟨g, 0, none⟩) 0 0) rfl (by kernel_rfl) (by kernel_rfl) (by kernel_rfl) (fun _ _ _ _ h => h) (fun u hu => ⟨.slice (some ⟨u.heap.size, 0, none⟩) 0 0, u.alloc (.cells #[] 9), (by go_simp), ⟨_, rfl⟩, bel_al (Below.refl _ _) _, KA.out u _ hu⟩) ?_
  rintro _ ⟨g1, rfl⟩
  try simp only [Act.put, List.setIfInBounds_toArray, List.set_cons_zero, List.set_cons_succ]
  refine wpR_take (i := 4) (oi := ⟨_, _, _, _, _, _⟩) (fun v => ∃ g, v = .slice (some ⟨g, 0, none⟩) 0 0) rfl (by kernel_rfl) (by kernel_rfl) (by kernel_rfl) (fun _ _ _ _ h => h) (fun u hu => ⟨.slice (some ⟨u.heap.size, 0, none⟩) 0 0, u.alloc (.cells #[] 33), (by go_simp), ⟨_, rfl⟩, bel_al (Below.refl _ _) _, KA.out u _ hu⟩) ?_
  rintro _ ⟨g2, rfl⟩
  try simp only [Act.put, List.setIfInBounds_toArray, List.set_cons_zero, List.set_cons_succ]
  refine wpR_one (i := 3) (o := ⟨_, _, _, _, _, _⟩) (by kernel_rfl) rfl (fun u1 hu1 su1 K hK => ?_)
  refine step_appE u1 rfl _ _ 24 rfl w.heap.size 9 i1 _ 1 16 Try.underlying24 hi1 hw10 hw11 hw12 rfl (by decide) (.slice (some ⟨g1, 0, none⟩) 0 0) 0 [] rfl (OwnE.zero _ _ _ _ _) (.slice a1 P.length q1) P.length (flatS P) rfl (R1.out _ (KB.out _ su1)) L1.out O1.out Z1.out.1 Z1.out.2 (Nat.le_trans YZ.out (KB.out _ su1).size) ?_
  intro vx1 x1 Ax1
  have Px1 : Later u1 x1 := Ax1.2.1.below (fun g _ h => absurd h (wrB_zero _ _)) (Nat.le_refl _)
  have Qx1 := Ax1.1
  rw [Nat.zero_add, List.nil_append] at Qx1
  obtain ⟨b1, p1, hv⟩ := Qx1.slice
  subst hv
  have D1 : Hid (∀ z, Later x1 z → OwnE z w.heap.size 9 1 (.slice b1 P.length p1) P.length (flatS P)) := fun z hz => Qx1.below hz
  have Sx1 := KEEP.out x1 (Below.and (KB.out _ su1) Px1)
  clear Ax1 Qx1 su1 hu1 Px1
  refine hK.out _ _ Sx1 ?_
  clear hK K
  try simp only [Act.put, List.setIfInBounds_toArray, List.set_cons_zero, List.set_cons_succ]
  clear Sx1
  refine wpR_one (i := 7) (o := ⟨_, _, _, _, _, _⟩) (by kernel_rfl) rfl (fun u2 hu2 su2 K hK => ?_)
  refine step_appE u2 rfl _ _ 25 rfl w.heap.size 33 i2 _ 2 16 Try.underlying25 hi2 hw20 hw21 hw22 rfl (by decide) (.slice (some ⟨g2, 0, none⟩) 0 0) 0 [] rfl (OwnE.zero _ _ _ _ _) (.slice a2 S.length q2) S.length (flatP S) rfl (R2.out _ (KB.out _ su2)) L2.out O2.out Z2.out.1 Z2.out.2 (Nat.le_trans YZ.out (KB.out _ su2).size) ?_
  intro vx2 x2 Ax2
  have Px2 : Later u2 x2 := Ax2.2.1.below (fun g _ h => absurd h (wrB_zero _ _)) (Nat.le_refl _)
  have Qx2 := Ax2.1
  rw [Nat.zero_add, List.nil_append] at Qx2
  obtain ⟨b2, p2, hv⟩ := Qx2.slice
  subst hv
  have D2 : Hid (∀ z, Later x2 z → OwnE z w.heap.size 33 2 (.slice b2 S.length p2) S.length (flatP S)) := fun z hz => Qx2.below hz
  replace D1 : Hid (∀ z, Later x2 z → OwnE z w.heap.size 9 1 (.slice b1 P.length p1) P.length (flatS P)) := fun z hz => D1.out z ((hu2.trans Px2).trans hz)
  have Sx2 := KEEP.out x2 (Below.and (KB.out _ su2) Px2)
  clear Ax2 Qx2 su2 hu2 Px2
  refine hK.out _ _ Sx2 ?_
  clear hK K
  try simp only [Act.put, List.setIfInBounds_toArray, List.set_cons_zero, List.set_cons_succ]
  clear Sx2
  refine wpR_take (i := 8) (oi := ⟨_, _, _, _, _, _⟩) (fun v => v = .agg #[.slice b1 P.length p1, .slice b2 S.length p2]) rfl (by kernel_rfl) (by kernel_rfl) (by kernel_rfl) (fun _ _ _ _ h => h) (fun u hu => ⟨_, u, (by go_simp; try rfl), rfl, Later.refl _, hu⟩) ?_
  rintro _ rfl
  try simp only [Act.put, List.setIfInBounds_toArray, List.set_cons_zero, List.set_cons_succ]
  refine wpR_done (by kernel_rfl) (fun u5 hu5 su5 => ?_) _
  show Oper.wp _ _ _ _ _ _
  have XU : u5.heap[w.heap.size + 1]? = some (.cells #[.slice none 0 0, .slice none 0 0] 27) := ((KB.out _ su5).block _ HR.out.2).trans HR.out.1
  have m0 : u5.cell? ⟨w.heap.size + 1, 0, none⟩ = some (.slice none 0 0) := cell_of_cells XU
  have m1 : u5.cell? ⟨w.heap.size + 1, 1, none⟩ = some (.slice none 0 0) := cell_of_cells XU
  have k0 : u5.frozen? ⟨w.heap.size + 1, 0, none⟩ = false := frozen_of_cells XU
  have k1 : u5.frozen? ⟨w.heap.size + 1, 1, none⟩ = false := frozen_of_cells XU
  have FIN : Hid (OwnE ((u5.setCell ⟨w.heap.size + 1, 0, none⟩ (.slice b1 P.length p1)).setCell ⟨w.heap.size + 1, 1, none⟩ (.slice b2 S.length p2)) w.heap.size 9 1 (.slice b1 P.length p1) P.length (flatS P) ∧ OwnE ((u5.setCell ⟨w.heap.size + 1, 0, none⟩ (.slice b1 P.length p1)).setCell ⟨w.heap.size + 1, 1, none⟩ (.slice b2 S.length p2)) w.heap.size 33 2 (.slice b2 S.length p2) S.length (flatP S) ∧ Below w.heap.size w ((u5.setCell ⟨w.heap.size + 1, 0, none⟩ (.slice b1 P.length p1)).setCell ⟨w.heap.size + 1, 1, none⟩ (.slice b2 S.length p2)) ∧ ((u5.setCell ⟨w.heap.size + 1, 0, none⟩ (.slice b1 P.length p1)).setCell ⟨w.heap.size + 1, 1, none⟩ (.slice b2 S.length p2)).heap[w.heap.size + 1]? = some (.cells #[.slice b1 P.length p1, .slice b2 S.length p2] 27)) := by
   have ch : Chg (fun g => g = w.heap.size + 1) u5 ((u5.setCell ⟨w.heap.size + 1, 0, none⟩ (.slice b1 P.length p1)).setCell ⟨w.heap.size + 1, 1, none⟩ (.slice b2 S.length p2)) := ((Chg.refl (fun g => g = w.heap.size + 1) _).setAt (w.heap.size + 1) 0 rfl _).setAt (w.heap.size + 1) 1 rfl _
   exact ⟨(D1.out u5 hu5).chg ch (fun g hg => ownE_ne (D1.out u5 hu5) XU (by decide) hg), (D2.out u5 hu5).chg ch (fun g hg => ownE_ne (D2.out u5 hu5) XU (by decide) hg),
    (((BW.out _ (KB.out _ su5))).setCell (p := ⟨w.heap.size + 1, 0, none⟩) (by show w.heap.size ≤ w.heap.size + 1; omega) _).setCell (p := ⟨w.heap.size + 1, 1, none⟩) (by show w.heap.size ≤ w.heap.size + 1; omega) _,
    heap_setCell_same _ _ 1 _ _ _ (heap_setCell_same u5 _ 0 _ _ _ XU)⟩
  clear D1 D2 XU
  go_simp
  go_wp2_with fail
  go_meet
  case rel => exact ⟨b1, b2, p1, p2, FIN.out.2.2.2, FIN.out.1, FIN.out.2.1, FIN.out.2.2.1⟩
 case rest =>
  obtain ⟨b1, b2, p1, p2, hh, h1, h2, h3⟩ := hcut
  have m0 : wc.cell? ⟨w.heap.size + 1, 0, none⟩ = some (.slice b1 P.length p1) := cell_of_cells hh
  have m1 : wc.cell? ⟨w.heap.size + 1, 1, none⟩ = some (.slice b2 S.length p2) := cell_of_cells hh
  go_wp2
  refine bodyPost_ret (v := .agg #[.slice b1 P.length p1, .slice b2 S.length p2]) (by simp [results, Try.results15, go_sem, m0, m1]) rfl ⟨_, rfl, ⟨_, _, rfl, h1.out, h2.out⟩, h3.out⟩
end
section
open Go.RowKit

theorem wA_bound' {l : List Wr} (h : ∀ x ∈ l, -9223372036854775808 ≤ x.1 ∧ x.1 ≤ 9223372036854775807) {k : Nat} (hk : k < l.length) : -9223372036854775808 ≤ wA l k ∧ wA l k ≤ 9223372036854775807 := by
 have := h l[k] (by simp)
 simpa [wA, List.getD, hk] using this
theorem OwnE.own {w : World} {base e size n : Nat} {v : Value} {xs : List Value} (h : OwnE w base e size v n xs) (hn : 0 < n) : w.ownsRow base e size v n xs := by
 rcases h with h | ⟨h, _⟩
 ·exact h
 ·omega
theorem Gd.size {w : World} {A B : Obj} {u : World} (h : Gd w A B u) : w.heap.size ≤ u.heap.size := h.1.size
def StD (w : World) (B : Nat) (s1 s2 : Value) (P : PgL) (S : SL) (wr : World) : Prop := wr.heap[B]? = some (.cells #[s1, s2] 27) ∧ wr.heap[w.heap.size + 1]? = some (.cells #[.slice none 0 0, .slice none 0 0] 27) ∧ OwnE wr w.heap.size 9 1 s1 P.length (flatS P) ∧ OwnE wr w.heap.size 33 2 s2 S.length (flatP S) ∧ Below w.heap.size w wr
theorem StD.below {w : World} {B : Nat} {s1 s2 : Value} {P : PgL} {S : SL} {wr wr' : World} (h : StD w B s1 s2 P S wr) (hb : Below wr.heap.size wr wr') : StD w B s1 s2 P S wr' := by
 obtain ⟨h1, h2, h3, h4, h5⟩ := h
 exact ⟨(hb.block _ (Array.getElem?_eq_some_iff.1 h1).1).trans h1, (hb.block _ (Array.getElem?_eq_some_iff.1 h2).1).trans h2, h3.below hb, h4.below hb, Below.and h5 hb⟩
theorem StD.page {w : World} {B : Nat} {s1 s2 : Value} {P : PgL} {S : SL} {wr : World} (h : StD w B s1 s2 P S wr) (a : Int) (t : ByteArray) (h0 : 0 ≤ a) (h1 : a < P.length) :
  ∃ g q, s1 = .slice (some ⟨g, 0, none⟩) P.length q ∧ g < wr.heap.size ∧ (∃ u, wr.cell? ⟨g, a.toNat, none⟩ = some (.string u)) ∧ wr.frozen? ⟨g, a.toNat, none⟩ = false ∧ P.length ≤ q ∧ q ≤ maxLen ∧ g ≠ B ∧
   StD w B s1 s2 (wrtP P a t) S (wr.setCell ⟨g, a.toNat, none⟩ (.string t)) := by
 obtain ⟨h2, h3, h4, h5, h6⟩ := h
 have o := h4.own (by omega)
 obtain ⟨g, q, e, hg, hc, hf, st, hob, hn, hq⟩ := own_page o a t h0 h1
 have ch : Chg (fun g' => g' = g) wr (wr.setCell ⟨g, a.toNat, none⟩ (.string t)) := (Chg.refl (fun g' => g' = g) _).setAt g _ rfl _
 have nB : ¬ B = g := fun hh => by
  obtain ⟨_, c1, e1⟩ := owns_lt o hob
  rw [← hh, h2] at e1
  simp at e1
 have nR : ¬ w.heap.size + 1 = g := fun hh => by
  obtain ⟨_, c1, e1⟩ := owns_lt o hob
  rw [← hh, h3] at e1
  simp at e1
 refine ⟨g, q, e, (o.lt g hob).2, hc, hf, hn, hq, fun hh => nB hh.symm, (ch.block _ (Array.getElem?_eq_some_iff.1 h2).1 nB).trans h2, (ch.block _ (Array.getElem?_eq_some_iff.1 h3).1 nR).trans h3, ?_, ?_, h6.setCell (p := ⟨g, a.toNat, none⟩) hg _⟩
 ·rw [wrtP_length]; exact .inl st
 ·refine h5.chg ch (fun g' hg' e' => ?_)
  subst e'
  obtain ⟨n, c, rfl, hc'⟩ := hg'
  rcases h5 with h5 | ⟨_, _, g2, h7⟩
  ·exact blk_ne o h5 hob rfl
  ·simp at h7; omega
theorem StD.super {w : World} {B : Nat} {s1 s2 : Value} {P : PgL} {S : SL} {wr : World} (h : StD w B s1 s2 P S wr) (a b c : Int) (h0 : 0 ≤ -1 - a) (h1 : -1 - a < min 2 (S.length : Int)) :
  ∃ g q, s2 = .slice (some ⟨g, 0, none⟩) S.length q ∧ g < wr.heap.size ∧ (∃ x y, wr.cell? ⟨g, (-1 - a).toNat * 2, none⟩ = some (.int .i64 x) ∧ wr.cell? ⟨g, (-1 - a).toNat * 2 + 1, none⟩ = some (.int .i64 y)) ∧ wr.frozen? ⟨g, (-1 - a).toNat * 2, none⟩ = false ∧ wr.frozen? ⟨g, (-1 - a).toNat * 2 + 1, none⟩ = false ∧ S.length ≤ q ∧ q ≤ maxLen ∧
   StD w B s1 s2 P (wrtS S a b c) ((wr.setCell ⟨g, (-1 - a).toNat * 2, none⟩ (.int .i64 b)).setCell ⟨g, (-1 - a).toNat * 2 + 1, none⟩ (.int .i64 c)) := by
 obtain ⟨h2, h3, h4, h5, h6⟩ := h
 have o := h5.own (by omega)
 obtain ⟨g, q, e, hg, hc, hf, hf2, st, hob, hn, hq⟩ := own_super o a b c h0 h1
 have ch : Chg (fun g' => g' = g) wr ((wr.setCell ⟨g, (-1 - a).toNat * 2, none⟩ (.int .i64 b)).setCell ⟨g, (-1 - a).toNat * 2 + 1, none⟩ (.int .i64 c)) := ((Chg.refl (fun g' => g' = g) _).setAt g _ rfl _).setAt g _ rfl _
 have nB : ¬ B = g := fun hh => by
  obtain ⟨_, c1, e1⟩ := owns_lt o hob
  rw [← hh, h2] at e1
  simp at e1
 have nR : ¬ w.heap.size + 1 = g := fun hh => by
  obtain ⟨_, c1, e1⟩ := owns_lt o hob
  rw [← hh, h3] at e1
  simp at e1
 refine ⟨g, q, e, (o.lt g hob).2, hc, hf, hf2, hn, hq, (ch.block _ (Array.getElem?_eq_some_iff.1 h2).1 nB).trans h2, (ch.block _ (Array.getElem?_eq_some_iff.1 h3).1 nR).trans h3, ?_, ?_, (h6.setCell (p := ⟨g, (-1 - a).toNat * 2, none⟩) hg _).setCell (p := ⟨g, (-1 - a).toNat * 2 + 1, none⟩) hg _⟩
 ·refine h4.chg ch (fun g' hg' e' => ?_)
  subst e'
  obtain ⟨n, c, rfl, hc'⟩ := hg'
  rcases h4 with h4 | ⟨_, _, g2, h7⟩
  ·exact blk_ne h4 o rfl hob
  ·simp at h7; omega
 ·rw [wrtS_length]; exact .inl st

theorem specDo_any (v : Value) (P : PgL) (S : SL) (vl : Value) (l : List Wr) (w : World) (hd : DiskRow w v P S) (hl : Row w vl l.length (flatW l)) (hP : P.length ≤ 1048576) (hS : S.length ≤ 1048576)
  (hA : ∀ x ∈ l, -9223372036854775808 ≤ x.1 ∧ x.1 ≤ 9223372036854775807) :
  Calls Try.prog 7 #[v, vl] w fun e w' => ∃ v', e = .returned v' ∧ DiskE w' w.heap.size v' (dkP P l) (dkS S l) ∧ Below w.heap.size w w' := by
 obtain ⟨vp, vs, rfl, r1, r2⟩ := hd
 obtain ⟨a, b, off, cap, rfl, hcap, hmax, ha, hk⟩ := hl.writs
 unfold maxLen at hmax
 have HK : Hid _ := And.intro ha hk
 have GS : Hid (Gd w (.cells #[vp, vs] 27) (.cells #[.slice none 0 0, .slice none 0 0] 27) ((w.alloc (.cells #[vp, vs] 27)).alloc (.cells #[.slice none 0 0, .slice none 0 0] 27))) := Gd.start w _ _
 have RD : Hid (∀ u, Below w.heap.size w u → DiskRow u (.agg #[vp, vs]) P S) := fun u hu => ⟨vp, vs, rfl, r1.below hu, r2.below hu⟩
 clear hl r1 r2 ha hk
 go_enter Try.func7, Try.ntmps7
 go_wp2_with fail
 refine (l6Copy_any _ P S _ (RD.out _ GS.out.1) hP hS).mono ?_
 rintro e w1 ⟨v1, rfl, ⟨s1, s2, rfl, o1, o2⟩, b1⟩
 have G1 := Gd.below GS.out b1
 have st : StD w w1.heap.size s1 s2 P S (w1.alloc (.cells #[s1, s2] 27)) := ⟨heap_alloc_new _ _, (G1.al _).2.2.2, (o1.mono (Gd.size GS.out)).below (bel_al (Below.refl _ _) _), (o2.mono (Gd.size GS.out)).below (bel_al (Below.refl _ _) _), (G1.al _).1⟩
 obtain ⟨a1, q1, rfl⟩ := o1.slice
 obtain ⟨a2, q2, rfl⟩ := o2.slice
 have I0 : Hid _ := And.intro st G1.2.1
 clear o1 o2 b1 G1 st GS RD
 go_wp2
 go_loopw [6] (fun i wr => ∃ k : Nat, k ≤ l.length ∧ i = .int .i64 k ∧ Hid (StD w w1.heap.size (.slice a1 P.length q1) (.slice a2 S.length q2) (dkP P (l.take k)) (dkS S (l.take k)) wr)) (fun i _ => l.length - (intOf i).toNat)
 case atStart => exact ⟨0, Nat.zero_le _, rfl, I0.out.1⟩
 case round =>
  obtain ⟨k, hkl, rfl, hI⟩ := hrel
  have st := hI.out
  obtain ⟨hB, hR, _, _, hbel⟩ := hI.out
  generalize w1.heap.size = B at *
  have m0 : wr.cell? ⟨B, 0, none⟩ = some (.slice a1 P.length q1) := cell_of_cells hB
  have m1 : wr.cell? ⟨B, 1, none⟩ = some (.slice a2 S.length q2) := cell_of_cells hB
  have hBl : B < wr.heap.size := (Array.getElem?_eq_some_iff.1 hB).1
  have hBn : ¬ B = wr.heap.size := by omega
  have hBm : ¬ wr.heap.size = B := by omega
  clear hI I0
  by_cases hlt' : k < l.length
  ·have hal := HK.out.1 (by omega)
   subst hal
   obtain ⟨c0, c1, c2, c3⟩ := HK.out.2 k hlt'
   have d0 := (hbel.cell (by exact cell_lt c0)).trans c0
   have d1 := (hbel.cell (by exact cell_lt c1)).trans c1
   have d2 := (hbel.cell (by exact cell_lt c2)).trans c2
   have d3 := (hbel.cell (by exact cell_lt c3)).trans c3
   have hab := wA_bound' hA hlt'
   have NP := dkP_next l P k hlt'
   have NS := dkS_next l S k hlt'
   have hQ := dkP_length (l.take k) P
   have hX := dkS_length (l.take k) S
   clear c0 c1 c2 c3 hB hR hbel HK
   generalize dkP P (l.take k) = Q at *
   generalize dkS S (l.take k) = X at *
   generalize wA l k = A at *
   generalize wT l k = T at *
   generalize wV l k = V at *
   generalize wR l k = R at *
   have sW := st.below (bel_al (w := wr) (Below.refl _ _) (.cells #[.int .i64 A, .string T, .int .i64 V, .int .i64 R] 35))
   by_cases ha : 0 ≤ A
   ·have hSS : wrtS X A V R = X := by unfold wrtS; rw [if_neg (by omega)]
    rw [hSS] at NS
    by_cases hp : A < Q.length
    ·obtain ⟨n, rfl⟩ := Int.eq_ofNat_of_zero_le ha
     obtain ⟨g, q, e, hgl, ⟨u, hc⟩, hf, hn, hq, hgB, s2⟩ := st.page n T ha hp
     injection e with e1 e2 e3
     subst e1 e3
     rw [Int.toNat_natCast] at hc hf s2
     have hin : inB (n : Int) 0 ((P.length : Int) - 1) = true := inB_true (by omega) (by omega)
     have hg3 : ¬ wr.heap.size = g := by omega
     have hg4 : ¬ g = wr.heap.size := by omega
     have hg5 : ¬ B = g := fun h => hgB h.symm
     have hnP : n < P.length := by omega
     have F : Hid (StD w B (.slice (some ⟨g, 0, none⟩) P.length q1) (.slice a2 S.length q2) (dkP P (l.take (k + 1))) (dkS S (l.take (k + 1))) ((wr.setCell ⟨g, n, none⟩ (.string T)).alloc (.cells #[.int .i64 n, .string T, .int .i64 V, .int .i64 R] 35))) := by
      rw [NP, NS]; exact s2.below (bel_al (Below.refl _ _) _)
     unfold maxLen at hq
     clear NP NS s2 st sW hSS e2 hp
     go_wp2_with fail
     refine (l1In_any _ _ _ _).mono ?_
     rintro e w2 ⟨rfl, hw⟩
     subst hw
     rw [hin]
     go_wp2
     go_roundw
     case rel => exact ⟨k + 1, by omega, by go_num, F.out⟩
     case measure => simp [intOf]; omega
    ·have hSP : wrtP Q A T = Q := by unfold wrtP; rw [if_neg (by omega)]
     rw [hSP] at NP
     have hin : inB A 0 ((P.length : Int) - 1) = false := inB_false2 (by omega)
     have hA1 : (A == -1) = false := by rw [beq_eq_false_iff_ne]; omega
     have hA2 : (A == -2) = false := by rw [beq_eq_false_iff_ne]; omega
     have F : Hid (StD w B (.slice a1 P.length q1) (.slice a2 S.length q2) (dkP P (l.take (k + 1))) (dkS S (l.take (k + 1))) (wr.alloc (.cells #[.int .i64 A, .string T, .int .i64 V, .int .i64 R] 35))) := by rw [NP, NS]; exact sW
     clear NP NS st sW hSS hSP
     go_wp2_with fail
     refine (l1In_any _ _ _ _).mono ?_
     rintro e w2 ⟨rfl, hw⟩
     subst hw
     rw [hin]
     go_wp2
     go_roundw
     case rel => exact ⟨k + 1, by omega, by go_num, F.out⟩
     case measure => simp [intOf]; omega
   ·have hSP : wrtP Q A T = Q := by unfold wrtP; rw [if_neg (by omega)]
    rw [hSP] at NP
    have hin : inB A 0 ((P.length : Int) - 1) = false := inB_false1 (by omega)
    by_cases hs : -1 - A < min 2 (X.length : Int)
    ·obtain ⟨g, q, e, hgl, ⟨x, y, hc, hd⟩, hf, hf', hn, hq, s2⟩ := sW.super A V R (by omega) hs
     injection e with e1 e2 e3
     subst e1 e3
     unfold maxLen at hq
     have hA12 : A = -1 ∨ A = -2 := by omega
     rcases hA12 with rfl | rfl
     ·-- the first super
      have F : Hid (StD w B (.slice a1 P.length q1) (.slice (some ⟨g, 0, none⟩) S.length q2) (dkP P (l.take (k + 1))) (dkS S (l.take (k + 1))) (((wr.alloc (.cells #[.int .i64 (-1), .string T, .int .i64 V, .int .i64 R] 35)).setCell ⟨g, 0, none⟩ (.int .i64 V)).setCell ⟨g, 1, none⟩ (.int .i64 R))) := by rw [NP, NS]; exact s2
      have hS0 : 0 < S.length := by omega
      replace hc : (wr.alloc (.cells #[.int .i64 (-1), .string T, .int .i64 V, .int .i64 R] 35)).cell? ⟨g, 0, none⟩ = some (.int .i64 x) := hc
      replace hd : (wr.alloc (.cells #[.int .i64 (-1), .string T, .int .i64 V, .int .i64 R] 35)).cell? ⟨g, 1, none⟩ = some (.int .i64 y) := hd
      replace hf : (wr.alloc (.cells #[.int .i64 (-1), .string T, .int .i64 V, .int .i64 R] 35)).frozen? ⟨g, 0, none⟩ = false := hf
      replace hf' : (wr.alloc (.cells #[.int .i64 (-1), .string T, .int .i64 V, .int .i64 R] 35)).frozen? ⟨g, 1, none⟩ = false := hf'
      clear NP NS s2 st sW hSP e2 hs hX hQ
      go_wp2_with fail
      refine (l1In_any _ _ _ _).mono ?_
      rintro e w2 ⟨rfl, hw⟩
      subst hw
      rw [hin]
      go_wp2
      go_roundw
      case rel => exact ⟨k + 1, by omega, by go_num, F.out⟩
      case measure => simp [intOf]; omega
     ·-- the second super
      have F : Hid (StD w B (.slice a1 P.length q1) (.slice (some ⟨g, 0, none⟩) S.length q2) (dkP P (l.take (k + 1))) (dkS S (l.take (k + 1))) (((wr.alloc (.cells #[.int .i64 (-2), .string T, .int .i64 V, .int .i64 R] 35)).setCell ⟨g, 2, none⟩ (.int .i64 V)).setCell ⟨g, 3, none⟩ (.int .i64 R))) := by rw [NP, NS]; exact s2
      have hS1 : 1 < S.length := by omega
      replace hc : (wr.alloc (.cells #[.int .i64 (-2), .string T, .int .i64 V, .int .i64 R] 35)).cell? ⟨g, 2, none⟩ = some (.int .i64 x) := hc
      replace hd : (wr.alloc (.cells #[.int .i64 (-2), .string T, .int .i64 V, .int .i64 R] 35)).cell? ⟨g, 3, none⟩ = some (.int .i64 y) := hd
      replace hf : (wr.alloc (.cells #[.int .i64 (-2), .string T, .int .i64 V, .int .i64 R] 35)).frozen? ⟨g, 2, none⟩ = false := hf
      replace hf' : (wr.alloc (.cells #[.int .i64 (-2), .string T, .int .i64 V, .int .i64 R] 35)).frozen? ⟨g, 3, none⟩ = false := hf'
      clear NP NS s2 st sW hSP e2 hs hX hQ
      go_wp2_with fail
      refine (l1In_any _ _ _ _).mono ?_
      rintro e w2 ⟨rfl, hw⟩
      subst hw
      rw [hin]
      go_wp2
      go_roundw
      case rel => exact ⟨k + 1, by omega, by go_num, F.out⟩
      case measure => simp [intOf]; omega
    ·have hSS : wrtS X A V R = X := by unfold wrtS; rw [if_neg (by omega)]
     rw [hSS] at NS
     have F : Hid (StD w B (.slice a1 P.length q1) (.slice a2 S.length q2) (dkP P (l.take (k + 1))) (dkS S (l.take (k + 1))) (wr.alloc (.cells #[.int .i64 A, .string T, .int .i64 V, .int .i64 R] 35))) := by rw [NP, NS]; exact sW
     clear NP NS st sW hSS hSP
     by_cases h1 : A = -1
     ·subst h1
      have hz' : ¬ 0 < S.length := by omega
      clear hs hX
      generalize S.length = sl at *
      go_wp2_with fail
      refine (l1In_any _ _ _ _).mono ?_
      rintro e w2 ⟨rfl, hw⟩
      subst hw
      rw [hin]
      go_wp2
      go_roundw
      case rel => exact ⟨k + 1, by omega, by go_num, F.out⟩
      case measure => simp [intOf]; omega
     ·by_cases h2 : A = -2
      ·subst h2
       have hz : ¬ 1 < S.length := by omega
       clear hs h1
       go_wp2_with fail
       refine (l1In_any _ _ _ _).mono ?_
       rintro e w2 ⟨rfl, hw⟩
       subst hw
       rw [hin]
       go_wp2
       go_roundw
       case rel => exact ⟨k + 1, by omega, by go_num, F.out⟩
       case measure => simp [intOf]; omega
      ·have hA1 : (A == -1) = false := by rw [beq_eq_false_iff_ne]; omega
       have hA2 : (A == -2) = false := by rw [beq_eq_false_iff_ne]; omega
       clear hs
       go_wp2_with fail
       refine (l1In_any _ _ _ _).mono ?_
       rintro e w2 ⟨rfl, hw⟩
       subst hw
       rw [hin]
       go_wp2
       go_roundw
       case rel => exact ⟨k + 1, by omega, by go_num, F.out⟩
       case measure => simp [intOf]; omega
  ·have hkk : k = l.length := by omega
   subst hkk
   rw [List.take_length] at st
   obtain ⟨hB, hR, o1, o2, hbel⟩ := st
   have n0 : wr.cell? ⟨w.heap.size + 1, 0, none⟩ = some (.slice none 0 0) := cell_of_cells hR
   have n1 : wr.cell? ⟨w.heap.size + 1, 1, none⟩ = some (.slice none 0 0) := cell_of_cells hR
   have f0 : wr.frozen? ⟨w.heap.size + 1, 0, none⟩ = false := frozen_of_cells hR
   have f1 : wr.frozen? ⟨w.heap.size + 1, 1, none⟩ = false := frozen_of_cells hR
   have ch : Chg (fun g => g = w.heap.size + 1) wr ((wr.setCell ⟨w.heap.size + 1, 0, none⟩ (.slice a1 P.length q1)).setCell ⟨w.heap.size + 1, 1, none⟩ (.slice a2 S.length q2)) := ((Chg.refl (fun g => g = w.heap.size + 1) _).setAt (w.heap.size + 1) 0 rfl _).setAt (w.heap.size + 1) 1 rfl _
   have F : Hid (DiskE ((wr.setCell ⟨w.heap.size + 1, 0, none⟩ (.slice a1 P.length q1)).setCell ⟨w.heap.size + 1, 1, none⟩ (.slice a2 S.length q2)) w.heap.size (.agg #[.slice a1 P.length q1, .slice a2 S.length q2]) (dkP P l) (dkS S l) ∧ Below w.heap.size w ((wr.setCell ⟨w.heap.size + 1, 0, none⟩ (.slice a1 P.length q1)).setCell ⟨w.heap.size + 1, 1, none⟩ (.slice a2 S.length q2))) :=
    ⟨⟨_, _, rfl, o1.chg ch (fun g hg => ownE_ne o1 hR (by decide) hg), o2.chg ch (fun g hg => ownE_ne o2 hR (by decide) hg)⟩, hbel.trans (ch.below (fun g _ hg => by omega) hbel.size)⟩
   clear hB hR hbel ch o1 o2
   go_wp2
   refine bodyPost_ret (v := .agg #[.slice a1 P.length q1, .slice a2 S.length q2]) (by simp [results, Try.results7, go_sem, n0, n1]) rfl ⟨_, rfl, F.out⟩
end
section
open Go.RowKit

def flatL (l : List Bool) : List Value := l.map Value.bool
def bOf (l : List Bool) (i : Nat) : Bool := l.getD i false
theorem flatL_at (l : List Bool) (i : Nat) (h : i < l.length) : (flatL l)[i]? = some (.bool (bOf l i)) := by simp [flatL, bOf, List.getD, h]
theorem flatL_append (l m : List Bool) : flatL (l ++ m) = flatL l ++ flatL m := by simp [flatL]
theorem flatL_set (l : List Bool) (s : Bool) (i : Nat) : (flatL l).set i (.bool s) = flatL (l.set i s) := by simp [flatL, List.map_set]
theorem Row.bools {w : World} {v : Value} {l : List Bool} (h : Row w v l.length (flatL l)) :
  ∃ (a : Option Addr) (b off cap : Nat), v = .slice a l.length cap ∧ l.length ≤ cap ∧ cap ≤ maxLen ∧ (0 < l.length → a = some ⟨b, off, none⟩) ∧
   (∀ i, i < l.length → w.cell? ⟨b, off + i, none⟩ = some (.bool (bOf l i))) := by
 obtain ⟨a, b, off, cap, h1, h2, h3, h4, h5, _⟩ := h
 exact ⟨a, b, off, cap, h1, h2, h3, h4, fun i hi => h5 _ _ (flatL_at l i hi)⟩
theorem Try.info4 : (Try.prog.info? 4).map (fun i => (i.zero, i.size, i.bytes)) = some (some (.bool false), 1, 1) := by kernel_rfl

def filledL (l : List Bool) (k : Nat) : List Value := flatL (l.take k) ++ List.replicate (l.length - k) (.bool false)
end
end Go.Proofs.Ytekcnibohikmdaa
