/-
  The contract of the model's DrawKidOf.
-/
import Derived.Test.YtmpiijphpnjlnaaGreatDrawT
namespace Go.Proofs.YtmpiijphpnjlnaaGreat
open Go.RowKit

set_option maxRecDepth 100000 in
set_option maxHeartbeats 4000000 in
theorem drawKidOf_own (v : Value) (bs : List Int) (w : World) (hcode : Code8 w v bs) (hn : bs.length ≤ 1048576) :
    Calls Tryz.prog 22 #[v] w fun e w' => ∃ (y : TV) (T : Tr) (k : Int), e = .returned (.tuple #[y.val, .int .i64 k]) ∧ sizeT 8 T ≤ 1099511627776 ∧ TreeF 8 w' (fun g => w.heap.size ≤ g) y T ∧ Below w.heap.size w w' := by
  have HN : Hid _ := l1New_any v bs (w.alloc (.cells #[.bool false, .slice none 0 0, .slice none 0 0, .slice none 0 0, .slice none 0 0] 29)) (hcode.below (al1 _ _)) hn
  have CO : Hid (∀ u, Below w.heap.size w u → Code8 u v bs) := fun u hu => hcode.below hu
  obtain ⟨ca, cn, hcv, _⟩ := hcode.1.len
  subst hcv
  have S0 : Hid (OneAt (w.alloc (.cells #[.bool false, .slice none 0 0, .slice none 0 0, .slice none 0 0, .slice none 0 0] 29)) w.heap.size #[.bool false, .slice none 0 0, .slice none 0 0, .slice none 0 0, .slice none 0 0]) := OneAt.start _ _
  have B0 : Hid (Below w.heap.size w (w.alloc (.cells #[.bool false, .slice none 0 0, .slice none 0 0, .slice none 0 0, .slice none 0 0] 29))) := al1 _ _
  clear hcode
  have HBN : Hid (bs.length ≤ 1048576) := hn
  clear hn
  generalize hbn : bs.length = bn at *
  go_enter Tryz.func22, Tryz.ntmps22
  go_wp2_with fail
  refine Calls.mono HN.out ?_
  rintro e w1 ⟨rfl, C1, hlt1, hb1⟩
  have B1 : Hid (Below w.heap.size w w1) := Below.and B0.out hb1
  have S1 : Hid (OneAt w1 w.heap.size #[.bool false, .slice none 0 0, .slice none 0 0, .slice none 0 0, .slice none 0 0]) := S0.out.step hb1
  have CU1 : Hid (Cur w1 (w.alloc (.cells #[.bool false, .slice none 0 0, .slice none 0 0, .slice none 0 0, .slice none 0 0] 29)).heap.size) := C1
  have HC : w.heap.size < (w.alloc (.cells #[.bool false, .slice none 0 0, .slice none 0 0, .slice none 0 0, .slice none 0 0] 29)).heap.size ∧ (w.alloc (.cells #[.bool false, .slice none 0 0, .slice none 0 0, .slice none 0 0, .slice none 0 0] 29)).heap.size < w1.heap.size := ⟨by simp, hlt1⟩
  clear C1 hlt1 hb1 HN S0 B0
  generalize (w.alloc (.cells #[.bool false, .slice none 0 0, .slice none 0 0, .slice none 0 0, .slice none 0 0] 29)).heap.size = C at *
  have HD : Hid _ := l2Draw_any C (.slice ca bn cn) bs w1 CU1.out (CO.out _ B1.out) (hbn ▸ HBN.out)
  go_wp2_with fail
  refine Calls.mono HD.out ?_
  rintro e w2 ⟨y, T, rfl, hsz, TF, C2, G2⟩
  have SZ : Hid (sizeT 8 T ≤ 1099511627776) := hsz
  obtain ⟨ya1, ya2, ya3, ya4, yq1, yq2, yq3, yq4, hyy⟩ := TF.treeAt.shape
  subst hyy
  have hz := G2.size
  have TF3 : Hid (TreeF 8 (w2.alloc (.cells #[.bool T.leaf, .slice ya1 T.pairs.length yq1, .slice ya2 T.cuts.length yq2, .slice ya3 T.kids.length yq3, .slice ya4 T.buf.length yq4] 29)) (fun g => w1.heap.size ≤ g ∧ g < w2.heap.size) (⟨T.leaf, .slice ya1 T.pairs.length yq1, .slice ya2 T.cuts.length yq2, .slice ya3 T.kids.length yq3, .slice ya4 T.buf.length yq4⟩ : TV) T) := TF.lt.below (al1 _ _)
  have XN3 : Hid (OneAt (w2.alloc (.cells #[.bool T.leaf, .slice ya1 T.pairs.length yq1, .slice ya2 T.cuts.length yq2, .slice ya3 T.kids.length yq3, .slice ya4 T.buf.length yq4] 29)) w2.heap.size #[.bool T.leaf, .slice ya1 T.pairs.length yq1, .slice ya2 T.cuts.length yq2, .slice ya3 T.kids.length yq3, .slice ya4 T.buf.length yq4]) := OneAt.start _ _
  have XS3 : Hid (OneAt (w2.alloc (.cells #[.bool T.leaf, .slice ya1 T.pairs.length yq1, .slice ya2 T.cuts.length yq2, .slice ya3 T.kids.length yq3, .slice ya4 T.buf.length yq4] 29)) w.heap.size #[.bool false, .slice none 0 0, .slice none 0 0, .slice none 0 0, .slice none 0 0]) := (S1.out.chg G2 (by omega)).step (al1 _ _)
  have CU3 : Hid (Cur (w2.alloc (.cells #[.bool T.leaf, .slice ya1 T.pairs.length yq1, .slice ya2 T.cuts.length yq2, .slice ya3 T.kids.length yq3, .slice ya4 T.buf.length yq4] 29)) C) := C2.below (al1 _ _)
  have B3 : Hid (Below w.heap.size w (w2.alloc (.cells #[.bool T.leaf, .slice ya1 T.pairs.length yq1, .slice ya2 T.cuts.length yq2, .slice ya3 T.kids.length yq3, .slice ya4 T.buf.length yq4] 29))) := (B1.out.trans (G2.below (fun g _ e => by omega) B1.out.size)).trans ((al1 w2 _).mono (by have := B1.out.size; omega))
  have Z3 : Hid (w1.heap.size ≤ w2.heap.size ∧ w.heap.size ≤ w1.heap.size) := ⟨hz, B1.out.size⟩
  clear TF C2 G2 HD S1 CU1 B1 CO hz hsz
  go_upto_region 3 with fail
  generalize (w2.alloc (.cells #[.bool T.leaf, .slice ya1 T.pairs.length yq1, .slice ya2 T.cuts.length yq2, .slice ya3 T.kids.length yq3, .slice ya4 T.buf.length yq4] 29)) = w3 at *
  generalize w2.heap.size = NT at *
  have hS : w3.drew.cell? ⟨NT, 0, none⟩ = some (.bool T.leaf) ∧ w3.drew.cell? ⟨NT, 1, none⟩ = some (.slice ya1 T.pairs.length yq1) ∧ w3.drew.cell? ⟨NT, 2, none⟩ = some (.slice ya2 T.cuts.length yq2) ∧ w3.drew.cell? ⟨NT, 3, none⟩ = some (.slice ya3 T.kids.length yq3) ∧ w3.drew.cell? ⟨NT, 4, none⟩ = some (.slice ya4 T.buf.length yq4) := box_cells5 XN3.out
  have TFd : Hid (TreeF 8 w3.drew (fun g => w1.heap.size ≤ g ∧ g < NT) (⟨T.leaf, .slice ya1 T.pairs.length yq1, .slice ya2 T.cuts.length yq2, .slice ya3 T.kids.length yq3, .slice ya4 T.buf.length yq4⟩ : TV) T) := TF3.out.below (Below.refl _ _).drew
  have XNd : Hid (OneAt w3.drew NT #[.bool T.leaf, .slice ya1 T.pairs.length yq1, .slice ya2 T.cuts.length yq2, .slice ya3 T.kids.length yq3, .slice ya4 T.buf.length yq4]) := XN3.out
  have XSd : Hid (OneAt w3.drew w.heap.size #[.bool false, .slice none 0 0, .slice none 0 0, .slice none 0 0, .slice none 0 0]) := XS3.out
  have CUd : Hid (Cur w3.drew C) := CU3.out.below (Below.refl _ _).drew
  have Bd : Hid (Below w.heap.size w w3.drew) := B3.out.drew
  clear TF3 XN3 XS3 CU3 B3
  refine wp_region_last (fun u => u.cell? ⟨NT, 0, none⟩ = some (.bool T.leaf) ∧ u.cell? ⟨NT, 1, none⟩ = some (.slice ya1 T.pairs.length yq1) ∧ u.cell? ⟨NT, 2, none⟩ = some (.slice ya2 T.cuts.length yq2) ∧ u.cell? ⟨NT, 3, none⟩ = some (.slice ya3 T.kids.length yq3) ∧ u.cell? ⟨NT, 4, none⟩ = some (.slice ya4 T.buf.length yq4)) [_, _, _, _] _ rfl (by kernel_rfl) (by kernel_rfl) ?_
  generalize w3.drew = wd at *
  refine wpAnyH_take (i := 0) (oi := ⟨_, _, _, _, _, _⟩) (v := ?_) rfl (by kernel_rfl) (by kernel_rfl) (by kernel_rfl) (fun _ _ _ h => h) (Or.inl ⟨by rfl, ?_⟩) (by assumption) ?_
  rotate_left
  · ((intro w hSw; (try dsimp only at hSw); go_simp); (try with_reducible rfl))
  try simp only [Act.put, List.setIfInBounds_toArray, List.set_cons_zero, List.set_cons_succ]
  refine wpAnyH_take (i := 1) (oi := ⟨_, _, _, _, _, _⟩) (v := ?_) rfl (by kernel_rfl) (by kernel_rfl) (by kernel_rfl) (fun _ _ _ h => h) (Or.inl ⟨by rfl, ?_⟩) (by assumption) ?_
  rotate_left
  · ((intro w hSw; (try dsimp only at hSw); go_simp); (try with_reducible rfl))
  try simp only [Act.put, List.setIfInBounds_toArray, List.set_cons_zero, List.set_cons_succ]
  refine wpAnyH_ready (rs := [2]) (by kernel_rfl) (by simp) ?_
  refine AllReadyH.cons (o := ⟨_, _, _, _, _, _⟩) rfl (fun K hK => ?_) AllReadyH.nil
  refine step_func rfl 35 [.tmp 12] #[58] rfl run35 [.pointer (some ⟨C, 0, none⟩)] rfl (l1DrawKey_any C wd CUd.out) ?_
  rintro e w5 ⟨k, rfl, _, _, C5, G5⟩
  refine ⟨_, rfl, ?_⟩
  have hz3 := Z3.out
  have TF5 : Hid (TreeF 8 w5 (fun g => w1.heap.size ≤ g ∧ g < NT) (⟨T.leaf, .slice ya1 T.pairs.length yq1, .slice ya2 T.cuts.length yq2, .slice ya3 T.kids.length yq3, .slice ya4 T.buf.length yq4⟩ : TV) T) := TFd.out.chg G5 (fun g hg e => by have := hg.1; omega)
  have XN5 : Hid (OneAt w5 NT #[.bool T.leaf, .slice ya1 T.pairs.length yq1, .slice ya2 T.cuts.length yq2, .slice ya3 T.kids.length yq3, .slice ya4 T.buf.length yq4]) := XNd.out.chg G5 (by omega)
  have XS5 : Hid (OneAt w5 w.heap.size #[.bool false, .slice none 0 0, .slice none 0 0, .slice none 0 0, .slice none 0 0]) := XSd.out.chg G5 (by omega)
  have B5 : Hid (Below w.heap.size w w5) := Bd.out.trans (G5.below (fun g _ e => by omega) Bd.out.size)
  clear C5 G5 TFd XNd XSd CUd Bd hz3
  refine hK.out _ _ (box_cells5 XN5.out) (fun hH => ?_)
  clear hK K
  try simp only [Act.put, List.setIfInBounds_toArray, List.set_cons_zero, List.set_cons_succ]
  clear hH
  refine wpAnyH_ready (rs := [3]) (by kernel_rfl) (by simp) ?_
  refine AllReadyH.cons (o := ⟨_, _, _, _, _, _⟩) rfl (fun K hK => ?_) AllReadyH.nil
  obtain ⟨⟨m0, m1, m2, m3, m4⟩, k0, k1, k2, k3, k4⟩ := box_all5 XS5.out
  go_simp
  have FIN : Hid (∀ v0 v1 v2 v3 v4, TreeF 8 (set5 w5 w.heap.size v0 v1 v2 v3 v4) (fun g => w1.heap.size ≤ g ∧ g < NT) (⟨T.leaf, .slice ya1 T.pairs.length yq1, .slice ya2 T.cuts.length yq2, .slice ya3 T.kids.length yq3, .slice ya4 T.buf.length yq4⟩ : TV) T ∧ OneAt (set5 w5 w.heap.size v0 v1 v2 v3 v4) NT #[.bool T.leaf, .slice ya1 T.pairs.length yq1, .slice ya2 T.cuts.length yq2, .slice ya3 T.kids.length yq3, .slice ya4 T.buf.length yq4] ∧ Below w.heap.size w (set5 w5 w.heap.size v0 v1 v2 v3 v4)) := fun v0 v1 v2 v3 v4 => by
    have hc := chg_set5 w5 w.heap.size v0 v1 v2 v3 v4
    have hz3 := Z3.out
    exact ⟨TF5.out.chg hc (fun g hg e => by have := hg.1; omega), XN5.out.chg hc (by omega), B5.out.trans (hc.below (fun g _ hg => by omega) B5.out.size)⟩
  clear m0 m1 m2 m3 m4 k0 k1 k2 k3 k4
  refine hK.out _ _ (box_cells5 (FIN.out _ _ _ _ _).2.1) (fun hH => ?_)
  clear hK K
  try simp only [Act.put, List.setIfInBounds_toArray, List.set_cons_zero, List.set_cons_succ]
  clear hH
  have X6 : Hid (OneAt (set5 w5 w.heap.size (.bool T.leaf) (.slice ya1 T.pairs.length yq1) (.slice ya2 T.cuts.length yq2) (.slice ya3 T.kids.length yq3) (.slice ya4 T.buf.length yq4)) w.heap.size #[.bool T.leaf, .slice ya1 T.pairs.length yq1, .slice ya2 T.cuts.length yq2, .slice ya3 T.kids.length yq3, .slice ya4 T.buf.length yq4]) := XS5.out.set5 _ _ _ _ _
  obtain ⟨m0, m1, m2, m3, m4⟩ := box_cells5 X6.out
  refine wpAnyH_done (by kernel_rfl) ?_ _
  show Oper.wp _ _ _ _ _ _
  go_simp
  go_wp2_with fail
  refine bodyPost_ret (v := .tuple #[.agg #[.bool T.leaf, .slice ya1 T.pairs.length yq1, .slice ya2 T.cuts.length yq2, .slice ya3 T.kids.length yq3, .slice ya4 T.buf.length yq4], .int .i64 k]) (by simp [results, Tryz.results22, go_sem, m0, m1, m2, m3, m4]) rfl ⟨⟨T.leaf, .slice ya1 T.pairs.length yq1, .slice ya2 T.cuts.length yq2, .slice ya3 T.kids.length yq3, .slice ya4 T.buf.length yq4⟩, T, k, rfl, SZ.out, (FIN.out _ _ _ _ _).1.mono (fun g hg => Nat.le_trans Z3.out.2 hg.1), (FIN.out _ _ _ _ _).2.2⟩

theorem drawKidOf_any (v : Value) (bs : List Int) (w : World) (hcode : Code8 w v bs) (hn : bs.length ≤ 1048576) :
    Calls Tryz.prog 22 #[v] w fun e w' => ∃ (y : TV) (T : Tr) (k : Int), e = .returned (.tuple #[y.val, .int .i64 k]) ∧ sizeT 8 T ≤ 1099511627776 ∧ TreeAt 8 w' y T ∧ Below w.heap.size w w' :=
  (drawKidOf_own v bs w hcode hn).mono fun _ _ ⟨y, T, k, h1, h2, h3, h4⟩ => ⟨y, T, k, h1, h2, h3.treeAt, h4⟩

end Go.Proofs.YtmpiijphpnjlnaaGreat
