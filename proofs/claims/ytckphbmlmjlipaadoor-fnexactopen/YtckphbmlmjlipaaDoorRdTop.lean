/-
  The model's ReadTree.
-/
import Derived.Test.YtckphbmlmjlipaaDoorRdS
import Derived.Test.YtckphbmlmjlipaaDoorRdSz
import Derived.Test.YtckphbmlmjlipaaDoorReadI
import Derived.Test.YtckphbmlmjlipaaDoorPart8
namespace Go.Proofs.YtckphbmlmjlipaaDoor
open Go.RowKit

set_option maxRecDepth 100000 in
set_option maxHeartbeats 2000000 in
theorem specReadTree_any (vp vs : Value) (l : List ByteArray) (hz : ∀ s ∈ l, s.size ≤ maxLen ∧ s.size ≤ 1099511627776) (root : Int) (w : World) (hr : Row w vp l.length (flatS l)) :
    Calls Tryd.prog 6 #[.agg #[vp, vs], .int .i64 root] w fun e w' => ReadRd w.heap.size (readT l root) e w' ∧ Below w.heap.size w w' := by
  have b2 : Below w.heap.size w ((w.alloc (.cells #[vp, vs] 37)).alloc (.cells #[.bool false, .slice none 0 0, .slice none 0 0, .slice none 0 0, .slice none 0 0] 32)) := Below.and (bel_new _ _) (bel_new _ _)
  have n1 := row_chg (F := fun _ => False) (heap_alloc_new w (.cells #[vp, vs] 37)) ((Chg.refl _ _).alloc (.cells #[.bool false, .slice none 0 0, .slice none 0 0, .slice none 0 0, .slice none 0 0] 32)) id
  have n2 : BoxIs ((w.alloc (.cells #[vp, vs] 37)).alloc (.cells #[.bool false, .slice none 0 0, .slice none 0 0, .slice none 0 0, .slice none 0 0] 32)) (w.heap.size + 1) (.bool false) (.slice none 0 0) (.slice none 0 0) (.slice none 0 0) (.slice none 0 0) := by
    have := heap_alloc_new (w.alloc (.cells #[vp, vs] 37)) (.cells #[.bool false, .slice none 0 0, .slice none 0 0, .slice none 0 0, .slice none 0 0] 32)
    rw [World.size_alloc] at this
    exact this
  have s2 : ((w.alloc (.cells #[vp, vs] 37)).alloc (.cells #[.bool false, .slice none 0 0, .slice none 0 0, .slice none 0 0, .slice none 0 0] 32)).heap.size = w.heap.size + 2 := by simp
  generalize hW2 : (w.alloc (.cells #[vp, vs] 37)).alloc (.cells #[.bool false, .slice none 0 0, .slice none 0 0, .slice none 0 0, .slice none 0 0] 32) = W2 at b2 n1 n2 s2
  have E2 : Hid ((w.alloc (.cells #[vp, vs] 37)).alloc (.cells #[.bool false, .slice none 0 0, .slice none 0 0, .slice none 0 0, .slice none 0 0] 32) = W2) := hW2
  have D0 : W2.cell? ⟨w.heap.size, 0, none⟩ = some vp := by rw [cell_of_cells n1]; rfl
  have D1 : W2.cell? ⟨w.heap.size, 1, none⟩ = some vs := by rw [cell_of_cells n1]; rfl
  have HR : Hid _ := hr.below b2
  have HH : Hid _ := And.intro b2 n2
  clear hW2 b2 n1 n2 hr
  go_enter Tryd.func6, Tryd.ntmps6
  go_upto_region 1 with fail
  rw [E2.out]
  go_wp2_with fail
  refine (l6Read_any vp vs l hz 7 (by omega) root W2 HR.out).mono ?_
  rintro e w3 ⟨hn, hB⟩
  have X3 := HH.out.2.chg (Chg.of_below (F := fun _ => False) hB) id
  have B3 : Below w.heap.size w w3 := Below.and HH.out.1 hB
  have hs3 : w.heap.size + 2 ≤ w3.heap.size := by have := hB.size; omega
  clear D0 D1 E2 hB
  cases hg : readR (pgB l) 7 root with
  | none =>
    rw [hg] at hn
    have hn' : e = .returned (.tuple #[treeZ, .bool false]) := hn
    subst hn'
    have HG : Hid (readT l root = none) := by show _ = _; unfold readT; rw [hg]
    have X4 : BoxIs (w3.alloc (.cells #[.bool false, .slice none 0 0, .slice none 0 0, .slice none 0 0, .slice none 0 0] 32)) (w.heap.size + 1) (.bool false) (.slice none 0 0) (.slice none 0 0) (.slice none 0 0) (.slice none 0 0) := X3.chg (Chg.of_below (F := fun _ => False) (bel_new _ _)) id
    have B4 : Below w.heap.size w (w3.alloc (.cells #[.bool false, .slice none 0 0, .slice none 0 0, .slice none 0 0, .slice none 0 0] 32)) := Below.and B3 (bel_new _ _)
    have hne : ¬ w.heap.size + 1 = w3.heap.size := by omega
    have hne' : ¬ w3.heap.size = w.heap.size + 1 := by omega
    obtain ⟨z0, z1, z2, z3, z4⟩ := X4.cell
    have zf := X4.live
    have YC := (X4.set (.bool false) (.slice none 0 0) (.slice none 0 0) (.slice none 0 0) (.slice none 0 0)).cell
    have YB := B4.trans ((set5_chg (w3.alloc (.cells #[.bool false, .slice none 0 0, .slice none 0 0, .slice none 0 0, .slice none 0 0] 32)) (w.heap.size + 1) (.bool false) (.slice none 0 0) (.slice none 0 0) (.slice none 0 0) (.slice none 0 0)).below (fun g _ hg => by omega) B4.size)
    unfold set5 at YC YB
    obtain ⟨y0, y1, y2, y3, y4⟩ := YC
    have HZ : Hid _ := YB
    clear hg X4 B4 YB hn
    go_wp2
    simp [bodyPost, results, Tryd.results6, go_sem, y0, y1, y2, y3, y4]
    exact ⟨ReadRd.none HG.out, HZ.out⟩
  | some T =>
    rw [hg] at hn
    obtain ⟨x, rfl, t3⟩ := hn
    have hsz := readR_size l 7 root T hg
    obtain ⟨xl, xp, xc, xk, xb⟩ := x
    obtain ⟨⟨y1, k1, r1, hy1⟩, ⟨y2, k2, r2, hy2⟩, ⟨y3, k3, r3, hy3⟩, ⟨y4, k4, r4, hy4⟩, _⟩ := TreeD.slices t3
    simp only at hy1 hy2 hy3 hy4
    subst hy1 hy2 hy3 hy4
    have X4 : BoxIs (w3.alloc (.cells #[.bool xl, .slice y1 k1 r1, .slice y2 k2 r2, .slice y3 k3 r3, .slice y4 k4 r4] 32)) (w.heap.size + 1) (.bool false) (.slice none 0 0) (.slice none 0 0) (.slice none 0 0) (.slice none 0 0) := X3.chg (Chg.of_below (F := fun _ => False) (bel_new _ _)) id
    have P4 : BoxIs (w3.alloc (.cells #[.bool xl, .slice y1 k1 r1, .slice y2 k2 r2, .slice y3 k3 r3, .slice y4 k4 r4] 32)) w3.heap.size (.bool xl) (.slice y1 k1 r1) (.slice y2 k2 r2) (.slice y3 k3 r3) (.slice y4 k4 r4) := heap_alloc_new _ _
    have B4 : Below w.heap.size w (w3.alloc (.cells #[.bool xl, .slice y1 k1 r1, .slice y2 k2 r2, .slice y3 k3 r3, .slice y4 k4 r4] 32)) := Below.and B3 (bel_new _ _)
    have t4 := t3.below (bel_new w3 (.cells #[.bool xl, .slice y1 k1 r1, .slice y2 k2 r2, .slice y3 k3 r3, .slice y4 k4 r4] 32))
    have s4 : (w3.alloc (.cells #[.bool xl, .slice y1 k1 r1, .slice y2 k2 r2, .slice y3 k3 r3, .slice y4 k4 r4] 32)).heap.size = w3.heap.size + 1 := by simp
    generalize hW4 : w3.alloc (.cells #[.bool xl, .slice y1 k1 r1, .slice y2 k2 r2, .slice y3 k3 r3, .slice y4 k4 r4] 32) = W4 at X4 P4 B4 t4 s4
    have E4 : Hid (w3.alloc (.cells #[.bool xl, .slice y1 k1 r1, .slice y2 k2 r2, .slice y3 k3 r3, .slice y4 k4 r4] 32) = W4) := hW4
    obtain ⟨p0, p1, p2, p3, p4⟩ := P4.cell
    have I4 : Hid _ := And.intro X4 (And.intro P4 (And.intro B4 t4))
    clear X4 P4 B4 t4 t3 hW4 X3 B3
    go_upto_region 2 with fail
    rw [E4.out]
    go_wp2_with fail
    refine (specTreeOk_any 7 ⟨xl, .slice y1 k1 r1, .slice y2 k2 r2, .slice y3 k3 r3, .slice y4 k4 r4⟩ T W4 I4.out.2.2.2.treeAt (by omega)).mono ?_
    rintro e w5 ⟨rfl, b5⟩
    have X5 := I4.out.1.chg (Chg.of_below (F := fun _ => False) b5) id
    have P5 := I4.out.2.1.chg (Chg.of_below (F := fun _ => False) b5) id
    have B5 := Below.and I4.out.2.2.1 b5
    have t5 := I4.out.2.2.2.below b5
    have hs5 := b5.size
    obtain ⟨z0, z1, z2, z3, z4⟩ := X5.cell
    have zf := X5.live
    clear p0 p1 p2 p3 p4
    obtain ⟨p0, p1, p2, p3, p4⟩ := P5.cell
    cases hok : okT T with
    | true =>
      have HG : Hid (readT l root = some T) := by show _ = _; unfold readT; rw [hg]; simp [hok]
      have g5 := set5_chg w5 (w.heap.size + 1) (.bool xl) (.slice y1 k1 r1) (.slice y2 k2 r2) (.slice y3 k3 r3) (.slice y4 k4 r4)
      have YC := (X5.set (.bool xl) (.slice y1 k1 r1) (.slice y2 k2 r2) (.slice y3 k3 r3) (.slice y4 k4 r4)).cell
      have YB := B5.trans (g5.below (fun g _ hg => by omega) B5.size)
      have zz : (set5 w5 (w.heap.size + 1) (.bool xl) (.slice y1 k1 r1) (.slice y2 k2 r2) (.slice y3 k3 r3) (.slice y4 k4 r4)).heap.size = w5.heap.size := by simp [set5]
      have YT := (t5.chg g5 (fun g hg e => by have := hg.1; omega)).mono (G := Zone w.heap.size (set5 w5 (w.heap.size + 1) (.bool xl) (.slice y1 k1 r1) (.slice y2 k2 r2) (.slice y3 k3 r3) (.slice y4 k4 r4)).heap.size) (fun g hg => ⟨by have := hg.1; omega, by have := hg.2; omega⟩)
      unfold set5 at YC YB YT
      obtain ⟨v0, v1, v2, v3, v4⟩ := YC
      have HZ : Hid _ := And.intro YB YT
      clear hg YB YT g5 X5 P5 B5 t5 zz hok
      go_wp2
      simp [bodyPost, results, Tryd.results6, go_sem, v0, v1, v2, v3, v4]
      rw [HG.out]
      exact ⟨⟨TV.mk xl (.slice y1 k1 r1) (.slice y2 k2 r2) (.slice y3 k3 r3) (.slice y4 k4 r4), by simp, HZ.out.2⟩, HZ.out.1⟩
    | false =>
      have HG : Hid (readT l root = none) := by show _ = _; unfold readT; rw [hg]; simp [hok]
      have YC := (X5.set (.bool false) (.slice none 0 0) (.slice none 0 0) (.slice none 0 0) (.slice none 0 0)).cell
      have YB := B5.trans ((set5_chg w5 (w.heap.size + 1) (.bool false) (.slice none 0 0) (.slice none 0 0) (.slice none 0 0) (.slice none 0 0)).below (fun g _ hg => by omega) B5.size)
      unfold set5 at YC YB
      obtain ⟨v0, v1, v2, v3, v4⟩ := YC
      have HZ : Hid _ := YB
      clear hg YB X5 P5 B5 t5 hok
      go_wp2
      simp [bodyPost, results, Tryd.results6, go_sem, v0, v1, v2, v3, v4]
      exact ⟨ReadRd.none HG.out, HZ.out⟩

end Go.Proofs.YtckphbmlmjlipaaDoor
