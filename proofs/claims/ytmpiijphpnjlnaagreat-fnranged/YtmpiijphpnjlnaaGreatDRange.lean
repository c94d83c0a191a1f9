/-
  The contract of the model's DrawTreeRange; ranges side by side.
-/
import Derived.Test.YtmpiijphpnjlnaaGreatGot
import Derived.Test.YtmpiijphpnjlnaaGreatRang
import Derived.Test.YtmpiijphpnjlnaaGreatStepG
namespace Go.Proofs.YtmpiijphpnjlnaaGreat
open Go.RowKit

set_option maxRecDepth 100000 in
set_option maxHeartbeats 4000000 in
theorem drawTreeRange_any (v : Value) (bs : List Int) (w : World) (hcode : Code8 w v bs) (hn : bs.length ≤ 1048576) :
    Calls Tryz.prog 15 #[v] w fun e w' => ∃ (y : TV) (T : Tr) (lo hi : Int), e = .returned (.tuple #[y.val, .int .i64 lo, .int .i64 hi]) ∧ -1 ≤ lo ∧ lo ≤ hi ∧ hi ≤ 1022 ∧ sizeT 8 T ≤ 1099511627776 ∧ TreeF 8 w' (fun g => w.heap.size ≤ g) y T ∧ Below w.heap.size w w' := by
  have HN : Hid _ := l1New_any v bs (w.alloc (.cells #[.bool false, .slice none 0 0, .slice none 0 0, .slice none 0 0, .slice none 0 0] 29)) (hcode.below (al1 _ _)) hn
  have CO : Hid (∀ u, Below w.heap.size w u → Code8 u v bs) := fun u hu => hcode.below hu
  obtain ⟨ca, cn, hcv, _⟩ := hcode.1.len
  subst hcv
  have S0 : Hid (OneAt (w.alloc (.cells #[.bool false, .slice none 0 0, .slice none 0 0, .slice none 0 0, .slice none 0 0] 29)) w.heap.size #[.bool false, .slice none 0 0, .slice none 0 0, .slice none 0 0, .slice none 0 0]) := OneAt.start _ _
  have B0 : Hid (Below w.heap.size w (w.alloc (.cells #[.bool false, .slice none 0 0, .slice none 0 0, .slice none 0 0, .slice none 0 0] 29))) := al1 _ _
  clear hcode
  have HBN : Hid (bs.length ≤ 1048576) := hn
  clear hn
  generalize hbn : bs.length = bn at *
  go_enter Tryz.func15, Tryz.ntmps15
  go_wp2_with fail
  refine Calls.mono HN.out ?_
  rintro e w1 ⟨rfl, C1, hlt1, hb1⟩
  have B1 : Hid (Below w.heap.size w w1) := Below.and B0.out hb1
  have S1 : Hid (OneAt w1 w.heap.size #[.bool false, .slice none 0 0, .slice none 0 0, .slice none 0 0, .slice none 0 0]) := S0.out.step hb1
  have CU1 : Hid (Cur w1 (w.alloc (.cells #[.bool false, .slice none 0 0, .slice none 0 0, .slice none 0 0, .slice none 0 0] 29)).heap.size) := C1
  have HC : w.heap.size < (w.alloc (.cells #[.bool false, .slice none 0 0, .slice none 0 0, .slice none 0 0, .slice none 0 0] 29)).heap.size ∧ (w.alloc (.cells #[.bool false, .slice none 0 0, .slice none 0 0, .slice none 0 0, .slice none 0 0] 29)).heap.size < w1.heap.size := ⟨by simp, hlt1⟩
  clear C1 hlt1 hb1 HN S0 B0
  generalize (w.alloc (.cells #[.bool false, .slice none 0 0, .slice none 0 0, .slice none 0 0, .slice none 0 0] 29)).heap.size = C at *
  have HD : Hid _ := l2Draw_any C (.slice ca bn cn) bs w1 CU1.out (CO.out _ B1.out) (hbn ▸ HBN.out)
  go_wp2_with fail
  refine Calls.mono HD.out ?_
  rintro e w2 ⟨y, T, rfl, hsz, TF, C2, G2⟩
  have SZ : Hid (sizeT 8 T ≤ 1099511627776) := hsz
  obtain ⟨ya1, ya2, ya3, ya4, yq1, yq2, yq3, yq4, hyy⟩ := TF.treeAt.shape
  subst hyy
  have hz := G2.size
  have TF3 : Hid (TreeF 8 (w2.alloc (.cells #[.bool T.leaf, .slice ya1 T.pairs.length yq1, .slice ya2 T.cuts.length yq2, .slice ya3 T.kids.length yq3, .slice ya4 T.buf.length yq4] 29)) (fun g => w1.heap.size ≤ g ∧ g < w2.heap.size) (⟨T.leaf, .slice ya1 T.pairs.length yq1, .slice ya2 T.cuts.length yq2, .slice ya3 T.kids.length yq3, .slice ya4 T.buf.length yq4⟩ : TV) T) := TF.lt.below (al1 _ _)
  have XN3 : Hid (OneAt (w2.alloc (.cells #[.bool T.leaf, .slice ya1 T.pairs.length yq1, .slice ya2 T.cuts.length yq2, .slice ya3 T.kids.length yq3, .slice ya4 T.buf.length yq4] 29)) w2.heap.size #[.bool T.leaf, .slice ya1 T.pairs.length yq1, .slice ya2 T.cuts.length yq2, .slice ya3 T.kids.length yq3, .slice ya4 T.buf.length yq4]) := OneAt.start _ _
  have XS3 : Hid (OneAt (w2.alloc (.cells #[.bool T.leaf, .slice ya1 T.pairs.length yq1, .slice ya2 T.cuts.length yq2, .slice ya3 T.kids.length yq3, .slice ya4 T.buf.length yq4] 29)) w.heap.size #[.bool false, .slice none 0 0, .slice none 0 0, .slice none 0 0, .slice none 0 0]) := (S1.out.chg G2 (by omega)).step (al1 _ _)
  have CU3 : Hid (Cur (w2.alloc (.cells #[.bool T.leaf, .slice ya1 T.pairs.length yq1, .slice ya2 T.cuts.length yq2, .slice ya3 T.kids.length yq3, .slice ya4 T.buf.length yq4] 29)) C) := C2.below (al1 _ _)
  have B3 : Hid (Below w.heap.size w (w2.alloc (.cells #[.bool T.leaf, .slice ya1 T.pairs.length yq1, .slice ya2 T.cuts.length yq2, .slice ya3 T.kids.length yq3, .slice ya4 T.buf.length yq4] 29))) := (B1.out.trans (G2.below (fun g _ e => by omega) B1.out.size)).trans ((al1 w2 _).mono (by have := B1.out.size; omega))
  have Z3 : Hid (w1.heap.size ≤ w2.heap.size ∧ w.heap.size ≤ w1.heap.size) := ⟨hz, B1.out.size⟩
  clear TF C2 G2 HD S1 CU1 B1 CO hz hsz
  have HK : Hid _ := l1DrawKey_any C _ CU3.out
  go_wp2_with fail
  refine Calls.mono HK.out ?_
  rintro e w3 ⟨lo0, rfl, hl0, hl1, C4, G4⟩
  have hz3 := Z3.out
  have hNT : w.heap.size < w2.heap.size := by omega
  have TFe : Hid (TreeF 8 w3 (fun g => w1.heap.size ≤ g ∧ g < w2.heap.size) (⟨T.leaf, .slice ya1 T.pairs.length yq1, .slice ya2 T.cuts.length yq2, .slice ya3 T.kids.length yq3, .slice ya4 T.buf.length yq4⟩ : TV) T) := TF3.out.chg G4 (fun g hg e => by have := hg.1; omega)
  have XNe : Hid (OneAt w3 w2.heap.size #[.bool T.leaf, .slice ya1 T.pairs.length yq1, .slice ya2 T.cuts.length yq2, .slice ya3 T.kids.length yq3, .slice ya4 T.buf.length yq4]) := XN3.out.chg G4 (by omega)
  have XSe : Hid (OneAt w3 w.heap.size #[.bool false, .slice none 0 0, .slice none 0 0, .slice none 0 0, .slice none 0 0]) := XS3.out.chg G4 (by omega)
  have CUe : Hid (Cur w3 C) := C4
  have Be : Hid (Below w.heap.size w w3) := B3.out.trans (G4.below (fun g _ e => by omega) B3.out.size)
  clear TF3 XN3 XS3 CU3 B3 C4 G4 HK hz3
  have hwr : IntKind.i64.wrap (lo0 - 1) = lo0 - 1 := by rw [IntKind.wrap_i64]; omega
  go_upto_region 4 with fail
  generalize hlo : lo0 - 1 = lo at *
  generalize w2.heap.size = NT at *
  have hS : w3.drew.cell? ⟨NT, 0, none⟩ = some (.bool T.leaf) ∧ w3.drew.cell? ⟨NT, 1, none⟩ = some (.slice ya1 T.pairs.length yq1) ∧ w3.drew.cell? ⟨NT, 2, none⟩ = some (.slice ya2 T.cuts.length yq2) ∧ w3.drew.cell? ⟨NT, 3, none⟩ = some (.slice ya3 T.kids.length yq3) ∧ w3.drew.cell? ⟨NT, 4, none⟩ = some (.slice ya4 T.buf.length yq4) := box_cells5 XNe.out
  have TFd : Hid (TreeF 8 w3.drew (fun g => w1.heap.size ≤ g ∧ g < NT) (⟨T.leaf, .slice ya1 T.pairs.length yq1, .slice ya2 T.cuts.length yq2, .slice ya3 T.kids.length yq3, .slice ya4 T.buf.length yq4⟩ : TV) T) := TFe.out.below (Below.refl _ _).drew
  have XNd : Hid (OneAt w3.drew NT #[.bool T.leaf, .slice ya1 T.pairs.length yq1, .slice ya2 T.cuts.length yq2, .slice ya3 T.kids.length yq3, .slice ya4 T.buf.length yq4]) := XNe.out
  have XSd : Hid (OneAt w3.drew w.heap.size #[.bool false, .slice none 0 0, .slice none 0 0, .slice none 0 0, .slice none 0 0]) := XSe.out
  have CUd : Hid (Cur w3.drew C) := CUe.out.below (Below.refl _ _).drew
  have Bd : Hid (Below w.heap.size w w3.drew) := Be.out.drew
  clear TFe XNe XSe CUe Be hwr
  refine wp_region_held_drew (S := (fun u => u.cell? ⟨NT, 0, none⟩ = some (.bool T.leaf) ∧ u.cell? ⟨NT, 1, none⟩ = some (.slice ya1 T.pairs.length yq1) ∧ u.cell? ⟨NT, 2, none⟩ = some (.slice ya2 T.cuts.length yq2) ∧ u.cell? ⟨NT, 3, none⟩ = some (.slice ya3 T.kids.length yq3) ∧ u.cell? ⟨NT, 4, none⟩ = some (.slice ya4 T.buf.length yq4))) (by kernel_rfl) hS (fun _ => ?_)
  generalize w3.drew = wd at *
  refine wpAnyH_take (i := 0) (oi := ⟨_, _, _, _, _, _⟩) (v := ?_) rfl (by kernel_rfl) (by kernel_rfl) (by kernel_rfl) (fun _ _ _ h => h) (Or.inl ⟨by rfl, ?_⟩) (by assumption) ?_
  rotate_left
  · ((intro w hSw; (try dsimp only at hSw); go_simp); (try with_reducible rfl))
  try simp only [Act.put, List.setIfInBounds_toArray, List.set_cons_zero, List.set_cons_succ]
  refine wpAnyH_take (i := 1) (oi := ⟨_, _, _, _, _, _⟩) (v := ?_) rfl (by kernel_rfl) (by kernel_rfl) (by kernel_rfl) (fun _ _ _ h => h) (Or.inl ⟨by rfl, ?_⟩) (by assumption) ?_
  rotate_left
  · ((intro w hSw; (try dsimp only at hSw); go_simp); (try with_reducible rfl))
  try simp only [Act.put, List.setIfInBounds_toArray, List.set_cons_zero, List.set_cons_succ]
  refine wpAnyH_take (i := 2) (oi := ⟨_, _, _, _, _, _⟩) (v := ?_) rfl (by kernel_rfl) (by kernel_rfl) (by kernel_rfl) (fun _ _ _ h => h) (Or.inl ⟨by rfl, ?_⟩) (by assumption) ?_
  rotate_left
  · ((intro w hSw; (try dsimp only at hSw); go_simp); (try with_reducible rfl))
  try simp only [Act.put, List.setIfInBounds_toArray, List.set_cons_zero, List.set_cons_succ]
  refine wpAnyH_take (i := 3) (oi := ⟨_, _, _, _, _, _⟩) (v := ?_) rfl (by kernel_rfl) (by kernel_rfl) (by kernel_rfl) (fun _ _ _ h => h) (Or.inl ⟨by rfl, ?_⟩) (by assumption) ?_
  rotate_left
  · ((intro w hSw; (try dsimp only at hSw); go_simp); (try with_reducible rfl))
  try simp only [Act.put, List.setIfInBounds_toArray, List.set_cons_zero, List.set_cons_succ]
  refine wpAnyH_ready (rs := [4]) (by kernel_rfl) (by simp) ?_
  refine AllReadyH.cons (o := ⟨_, _, _, _, _, _⟩) rfl (fun K hK => ?_) AllReadyH.nil
  refine step_func rfl 36 [.tmp 19, .const (.int .i64 25)] #[58, 3] rfl run36 [.pointer (some ⟨C, 0, none⟩), .int .i64 25] rfl (l1Below_any C 25 wd CUd.out (by decide)) ?_
  rintro e w5 ⟨k, rfl, hk0, hk1, _, C5, G5⟩
  have hk2 := hk1 (by decide)
  refine ⟨_, rfl, ?_⟩
  have hz3 := Z3.out
  have TF5 : Hid (TreeF 8 w5 (fun g => w1.heap.size ≤ g ∧ g < NT) (⟨T.leaf, .slice ya1 T.pairs.length yq1, .slice ya2 T.cuts.length yq2, .slice ya3 T.kids.length yq3, .slice ya4 T.buf.length yq4⟩ : TV) T) := TFd.out.chg G5 (fun g hg e => by have := hg.1; omega)
  have XN5 : Hid (OneAt w5 NT #[.bool T.leaf, .slice ya1 T.pairs.length yq1, .slice ya2 T.cuts.length yq2, .slice ya3 T.kids.length yq3, .slice ya4 T.buf.length yq4]) := XNd.out.chg G5 (by omega)
  have XS5 : Hid (OneAt w5 w.heap.size #[.bool false, .slice none 0 0, .slice none 0 0, .slice none 0 0, .slice none 0 0]) := XSd.out.chg G5 (by omega)
  have B5 : Hid (Below w.heap.size w w5) := Bd.out.trans (G5.below (fun g _ e => by omega) Bd.out.size)
  have hwr2 : IntKind.i64.wrap (lo + k) = lo + k := by rw [IntKind.wrap_i64]; omega
  clear C5 G5 TFd XNd XSd CUd Bd hz3 hk1
  refine hK.out _ _ (box_cells5 XN5.out) (fun hH => ?_)
  clear hK K
  try simp only [Act.put, List.setIfInBounds_toArray, List.set_cons_zero, List.set_cons_succ]
  refine wpAnyH_take (i := 5) (oi := ⟨_, _, _, _, _, _⟩) (v := ?_) rfl (by kernel_rfl) (by kernel_rfl) (by kernel_rfl) (fun _ _ _ h => h) (Or.inl ⟨by rfl, ?_⟩) (by assumption) ?_
  rotate_left
  · ((intro w hSw; (try dsimp only at hSw); go_simp); (try with_reducible rfl))
  try simp only [Act.put, List.setIfInBounds_toArray, List.set_cons_zero, List.set_cons_succ]
  clear hH
  refine wpAnyH_ready (rs := [6]) (by kernel_rfl) (by simp) ?_
  refine AllReadyH.cons (o := ⟨_, _, _, _, _, _⟩) rfl (fun K hK => ?_) AllReadyH.nil
  obtain ⟨⟨m0, m1, m2, m3, m4⟩, k0, k1, k2, k3, k4⟩ := box_all5 XS5.out
  go_simp
  have FIN : Hid (∀ v0 v1 v2 v3 v4, TreeF 8 (set5 w5 w.heap.size v0 v1 v2 v3 v4) (fun g => w1.heap.size ≤ g ∧ g < NT) (⟨T.leaf, .slice ya1 T.pairs.length yq1, .slice ya2 T.cuts.length yq2, .slice ya3 T.kids.length yq3, .slice ya4 T.buf.length yq4⟩ : TV) T ∧ OneAt (set5 w5 w.heap.size v0 v1 v2 v3 v4) NT #[.bool T.leaf, .slice ya1 T.pairs.length yq1, .slice ya2 T.cuts.length yq2, .slice ya3 T.kids.length yq3, .slice ya4 T.buf.length yq4] ∧ Below w.heap.size w (set5 w5 w.heap.size v0 v1 v2 v3 v4)) := fun v0 v1 v2 v3 v4 => by
    have hc := chg_set5 w5 w.heap.size v0 v1 v2 v3 v4
    have hz3 := Z3.out
    exact ⟨TF5.out.chg hc (fun g hg e => by have := hg.1; omega), XN5.out.chg hc (by omega), B5.out.trans (hc.below (fun g _ hg => by omega) B5.out.size)⟩
  clear m0 m1 m2 m3 m4 k0 k1 k2 k3 k4
  refine hK.out _ _ (box_cells5 (FIN.out _ _ _ _ _).2.1) (fun hH => ?_)
  clear hK K
  try simp only [Act.put, List.setIfInBounds_toArray, List.set_cons_zero, List.set_cons_succ]
  refine wpAnyH_take (i := 7) (oi := ⟨_, _, _, _, _, _⟩) (v := ?_) rfl (by kernel_rfl) (by kernel_rfl) (by kernel_rfl) (fun _ _ _ h => h) (Or.inl ⟨by rfl, ?_⟩) (by assumption) ?_
  rotate_left
  · ((intro w hSw; (try dsimp only at hSw); go_simp); (try with_reducible rfl))
  try simp only [Act.put, List.setIfInBounds_toArray, List.set_cons_zero, List.set_cons_succ]
  refine wpAnyH_take (i := 8) (oi := ⟨_, _, _, _, _, _⟩) (v := ?_) rfl (by kernel_rfl) (by kernel_rfl) (by kernel_rfl) (fun _ _ _ h => h) (Or.inl ⟨by rfl, ?_⟩) (by assumption) ?_
  rotate_left
  · ((intro w hSw; (try dsimp only at hSw); go_simp); (try with_reducible rfl))
  try simp only [Act.put, List.setIfInBounds_toArray, List.set_cons_zero, List.set_cons_succ]
  clear hH
  have X6 : Hid (OneAt (set5 w5 w.heap.size (.bool T.leaf) (.slice ya1 T.pairs.length yq1) (.slice ya2 T.cuts.length yq2) (.slice ya3 T.kids.length yq3) (.slice ya4 T.buf.length yq4)) w.heap.size #[.bool T.leaf, .slice ya1 T.pairs.length yq1, .slice ya2 T.cuts.length yq2, .slice ya3 T.kids.length yq3, .slice ya4 T.buf.length yq4]) := XS5.out.set5 _ _ _ _ _
  obtain ⟨m0, m1, m2, m3, m4⟩ := box_cells5 X6.out
  refine wpAnyH_done (by kernel_rfl) ?_ _
  go_wp2_with fail
  refine bodyPost_ret (v := .tuple #[.agg #[.bool T.leaf, .slice ya1 T.pairs.length yq1, .slice ya2 T.cuts.length yq2, .slice ya3 T.kids.length yq3, .slice ya4 T.buf.length yq4], .int .i64 lo, .int .i64 (lo + k)]) (by simp [results, Tryz.results15, go_sem, m0, m1, m2, m3, m4]) rfl ⟨⟨T.leaf, .slice ya1 T.pairs.length yq1, .slice ya2 T.cuts.length yq2, .slice ya3 T.kids.length yq3, .slice ya4 T.buf.length yq4⟩, T, lo, lo + k, rfl, by omega, by omega, by omega, SZ.out, (FIN.out _ _ _ _ _).1.mono (fun g hg => Nat.le_trans Z3.out.2 hg.1), (FIN.out _ _ _ _ _).2.2⟩

theorem rangeL_none {l : PL} {lo mid : Int} (h : ∀ q ∈ l, mid ≤ q.1) : rangeL l lo mid = [] := by
  unfold rangeL
  rw [List.filter_eq_nil_iff]
  intro q hq
  have := h q hq
  simp
  omega
theorem rangeL_split : ∀ {l : PL} (_ : Asc l) {lo mid hi : Int}, lo ≤ mid → mid ≤ hi → rangeL l lo mid ++ rangeL l mid hi = rangeL l lo hi
  | [], _, _, _, _, _, _ => rfl
  | p :: l, h, lo, mid, hi, h1, h2 => by
    have ih := rangeL_split h.cons.2 h1 h2
    unfold rangeL at ih ⊢
    rcases Int.lt_or_le p.1 mid with hp | hp
    · have e2 : decide (mid ≤ p.1 ∧ p.1 < hi) = false := decide_eq_false (by omega)
      by_cases hl : lo ≤ p.1
      · have e1 : decide (lo ≤ p.1 ∧ p.1 < mid) = true := decide_eq_true ⟨hl, hp⟩
        have e3 : decide (lo ≤ p.1 ∧ p.1 < hi) = true := decide_eq_true ⟨hl, by omega⟩
        rw [List.filter_cons, List.filter_cons, List.filter_cons, e1, e2, e3]
        simp only [if_true, List.cons_append]
        rw [← ih]
        rfl
      · have e1 : decide (lo ≤ p.1 ∧ p.1 < mid) = false := decide_eq_false (fun h => hl h.1)
        have e3 : decide (lo ≤ p.1 ∧ p.1 < hi) = false := decide_eq_false (fun h => hl h.1)
        rw [List.filter_cons, List.filter_cons, List.filter_cons, e1, e2, e3]
        exact ih
    · have hn := rangeL_none (l := p :: l) (lo := lo) (mid := mid) (fun q hq => by
        rcases List.mem_cons.1 hq with rfl | hq
        · exact hp
        · have := h.cons.1 q hq; omega)
      unfold rangeL at hn
      rw [hn, List.nil_append]
      refine List.filter_congr fun q hq => ?_
      have hq' : mid ≤ q.1 := by
        rcases List.mem_cons.1 hq with rfl | hq
        · exact hp
        · have := h.cons.1 q hq; omega
      by_cases hh : q.1 < hi
      · rw [decide_eq_true (⟨hq', hh⟩ : mid ≤ q.1 ∧ q.1 < hi), decide_eq_true (⟨by omega, hh⟩ : lo ≤ q.1 ∧ q.1 < hi)]
      · rw [decide_eq_false (fun k => hh k.2), decide_eq_false (fun k => hh k.2)]
theorem range_all (T : Tr) : rangeT T 0 1000 = mapT T := by
  unfold rangeT rangeL
  refine List.filter_eq_self.2 fun p hp => ?_
  have := ((mapT_mapP T).2 p hp).1
  simp
  omega
theorem range_ok (T : Tr) (lo hi : Int) : mapOkB (rangeT T lo hi) = true := by
  rw [mapOkB_iff]
  exact ⟨List.pairwise_map.2 ((List.pairwise_map.1 (mapT_mapP T).1).filter _), fun p hp => (mapT_mapP T).2 p (List.mem_filter.1 hp).1⟩
theorem range_parts (T : Tr) {lo mid hi : Int} (h1 : lo ≤ mid) (h2 : mid ≤ hi) : rangeT T lo mid ++ rangeT T mid hi = rangeT T lo hi := rangeL_split (mapT_mapP T).1 h1 h2

end Go.Proofs.YtmpiijphpnjlnaaGreat
