/-
  The program's Open.
-/
import Derived.Test.YtckphbmlmjlipaaDoorOpenM
namespace Go.Proofs.YtckphbmlmjlipaaDoor
open Go.RowKit

set_option maxRecDepth 100000 in
set_option maxHeartbeats 2000000 in
theorem implOpen_any (ea : Addr) (vp vs : Value) (P : List ByteArray) (S : List (Int × Int)) (hz : ∀ s ∈ P, s.size ≤ maxLen) (w : World) (hr : Row w vp P.length (flatS P)) (hs : Row w vs S.length (flatP S)) (he : ErrIs ea w) :
    Calls Tryd.prog 15 #[.agg #[vp, vs]] w fun e w' => OpenRd w.heap.size (openSt P S S.length) e w' ∧ Below w.heap.size w w' := by
  obtain ⟨a, b, off, cap, rfl, hcap, hmax, ha, hx0, hx1⟩ := hs.pairs
  unfold maxLen at hmax
  have b3 : Below w.heap.size w (((w.alloc (.cells #[vp, (.slice a S.length cap)] 37)).alloc (.cells #[.bool false, .slice none 0 0, .slice none 0 0, .slice none 0 0, .slice none 0 0] 32)).alloc (.cells #[.bool false, .slice none 0 0, .slice none 0 0, .slice none 0 0, .slice none 0 0] 32)) := Below.and (bel_new _ _) (Below.and (bel_new _ _) (bel_new _ _))
  have D3 : DB 37 (((w.alloc (.cells #[vp, (.slice a S.length cap)] 37)).alloc (.cells #[.bool false, .slice none 0 0, .slice none 0 0, .slice none 0 0, .slice none 0 0] 32)).alloc (.cells #[.bool false, .slice none 0 0, .slice none 0 0, .slice none 0 0, .slice none 0 0] 32)) w.heap.size vp (.slice a S.length cap) := ((DB.new _ _ _ _).below (bel_new _ _)).below (bel_new _ _)
  have R3 : BoxIs (((w.alloc (.cells #[vp, (.slice a S.length cap)] 37)).alloc (.cells #[.bool false, .slice none 0 0, .slice none 0 0, .slice none 0 0, .slice none 0 0] 32)).alloc (.cells #[.bool false, .slice none 0 0, .slice none 0 0, .slice none 0 0, .slice none 0 0] 32)) (w.heap.size + 1) (.bool false) (.slice none 0 0) (.slice none 0 0) (.slice none 0 0) (.slice none 0 0) := by
    have : BoxIs ((w.alloc (.cells #[vp, (.slice a S.length cap)] 37)).alloc (.cells #[.bool false, .slice none 0 0, .slice none 0 0, .slice none 0 0, .slice none 0 0] 32)) (w.heap.size + 1) (.bool false) (.slice none 0 0) (.slice none 0 0) (.slice none 0 0) (.slice none 0 0) := by
      have := heap_alloc_new (w.alloc (.cells #[vp, (.slice a S.length cap)] 37)) (.cells #[.bool false, .slice none 0 0, .slice none 0 0, .slice none 0 0, .slice none 0 0] 32)
      rw [World.size_alloc] at this
      exact this
    exact this.chg (Chg.of_below (F := fun _ => False) (bel_new _ _)) id
  have N3 : BoxIs (((w.alloc (.cells #[vp, (.slice a S.length cap)] 37)).alloc (.cells #[.bool false, .slice none 0 0, .slice none 0 0, .slice none 0 0, .slice none 0 0] 32)).alloc (.cells #[.bool false, .slice none 0 0, .slice none 0 0, .slice none 0 0, .slice none 0 0] 32)) (w.heap.size + 2) (.bool false) (.slice none 0 0) (.slice none 0 0) (.slice none 0 0) (.slice none 0 0) := by
    have := heap_alloc_new ((w.alloc (.cells #[vp, (.slice a S.length cap)] 37)).alloc (.cells #[.bool false, .slice none 0 0, .slice none 0 0, .slice none 0 0, .slice none 0 0] 32)) (.cells #[.bool false, .slice none 0 0, .slice none 0 0, .slice none 0 0, .slice none 0 0] 32)
    rw [World.size_alloc, World.size_alloc] at this
    exact this
  have s3 : (((w.alloc (.cells #[vp, (.slice a S.length cap)] 37)).alloc (.cells #[.bool false, .slice none 0 0, .slice none 0 0, .slice none 0 0, .slice none 0 0] 32)).alloc (.cells #[.bool false, .slice none 0 0, .slice none 0 0, .slice none 0 0, .slice none 0 0] 32)).heap.size = w.heap.size + 3 := by simp
  generalize hW3 : ((w.alloc (.cells #[vp, (.slice a S.length cap)] 37)).alloc (.cells #[.bool false, .slice none 0 0, .slice none 0 0, .slice none 0 0, .slice none 0 0] 32)).alloc (.cells #[.bool false, .slice none 0 0, .slice none 0 0, .slice none 0 0, .slice none 0 0] 32) = W3 at b3 D3 R3 N3 s3
  have E3 : Hid (((w.alloc (.cells #[vp, (.slice a S.length cap)] 37)).alloc (.cells #[.bool false, .slice none 0 0, .slice none 0 0, .slice none 0 0, .slice none 0 0] 32)).alloc (.cells #[.bool false, .slice none 0 0, .slice none 0 0, .slice none 0 0, .slice none 0 0] 32) = W3) := hW3
  have H0 : Hid _ := And.intro b3 (And.intro D3 (And.intro R3 (And.intro N3 (And.intro s3 (he.below b3)))))
  have HV : Hid _ := And.intro hr (And.intro ha (And.intro hx0 hx1))
  obtain ⟨c0, c1, _⟩ := D3.cells
  have h00 : 0 < w.heap.size := cell_lt he
  clear hW3 b3 D3 R3 N3 hr ha hx0 hx1 he hs
  have hv0 : (openSt P S 0).2 = 0 := rfl
  go_enter Tryd.func15, Tryd.ntmps15
  go_upto_region 2 with fail
  rw [E3.out]
  go_wp2_with fail
  go_loopw [6, 14] (fun vv i wr => ∃ (j : Nat) (x : TV), j ≤ S.length ∧ i = .int .i64 j ∧ vv = .int .i64 (openSt P S j).2 ∧ Hid (∃ (al : Bool) (a1 a2 a3 a4 : Option Addr) (a5 a6 a7 a8 a9 aa ab ac : Nat), x = (TV.mk al (.slice a1 a5 a9) (.slice a2 a6 aa) (.slice a3 a7 ab) (.slice a4 a8 ac)) ∧ TreeD 7 wr (Zone (w.heap.size + 3) wr.heap.size) (TV.mk al (.slice a1 a5 a9) (.slice a2 a6 aa) (.slice a3 a7 ab) (.slice a4 a8 ac)) ((openSt P S j).1.getD noneT) ∧ BoxIs wr (w.heap.size + 2) (.bool al) (.slice a1 a5 a9) (.slice a2 a6 aa) (.slice a3 a7 ab) (.slice a4 a8 ac) ∧ BoxIs wr (w.heap.size + 1) (.bool false) (.slice none 0 0) (.slice none 0 0) (.slice none 0 0) (.slice none 0 0) ∧ DB 37 wr w.heap.size vp (.slice a S.length cap) ∧ Below w.heap.size w wr ∧ w.heap.size + 3 ≤ wr.heap.size ∧ ErrIs ea wr)) (fun _ i _ => S.length - (intOf i).toNat)
  case atStart => exact ⟨0, TV.mk false (.slice none 0 0) (.slice none 0 0) (.slice none 0 0) (.slice none 0 0), Nat.zero_le _, rfl, rfl, false, none, none, none, none, 0, 0, 0, 0, 0, 0, 0, 0, rfl, zeroD _ _, H0.out.2.2.2.1, H0.out.2.2.1, H0.out.2.1, H0.out.1, by have := H0.out.2.2.2.2.1; omega, H0.out.2.2.2.2.2⟩
  case round =>
    obtain ⟨j, x, hj, rfl, rfl, HI⟩ := hrel
    obtain ⟨al, a1, a2, a3, a4, a5, a6, a7, a8, a9, aa, ab, ac, hx, tA, bN, bR, bD, bel, hsz, hE⟩ := HI.out
    subst hx
    by_cases hlt : j < S.length
    · have hal := HV.out.2.1 (by omega)
      subst hal
      have d0 := (bel.cell (by exact cell_lt (HV.out.2.2.1 j hlt))).trans (HV.out.2.2.1 j hlt)
      have d1 := (bel.cell (by exact cell_lt (HV.out.2.2.2 j hlt))).trans (HV.out.2.2.2 j hlt)
      have SL : Hid (Below wr.heap.size wr (wr.alloc (.cells #[.int .i64 (kOf S j), .int .i64 (vOf S j)] 67))) := bel_new _ _
      have SX : Hid (DB 67 (wr.alloc (.cells #[.int .i64 (kOf S j), .int .i64 (vOf S j)] 67)) wr.heap.size (.int .i64 (kOf S j)) (.int .i64 (vOf S j))) := DB.new _ _ _ _
      have s4 : (wr.alloc (.cells #[.int .i64 (kOf S j), .int .i64 (vOf S j)] 67)).heap.size = wr.heap.size + 1 := by simp
      clear c0 c1
      go_upto_region 6 with fail
      generalize wr.alloc (.cells #[.int .i64 (kOf S j), .int .i64 (vOf S j)] 67) = V at *
      have tA4 : Hid (TreeD 7 V (Zone (w.heap.size + 3) wr.heap.size) (TV.mk al (.slice a1 a5 a9) (.slice a2 a6 aa) (.slice a3 a7 ab) (.slice a4 a8 ac)) ((openSt P S j).1.getD noneT)) := tA.below SL.out
      have bN4 : Hid (BoxIs V (w.heap.size + 2) (.bool al) (.slice a1 a5 a9) (.slice a2 a6 aa) (.slice a3 a7 ab) (.slice a4 a8 ac)) := bN.chg (Chg.of_below (F := fun _ => False) SL.out) id
      have bR4 : Hid (BoxIs V (w.heap.size + 1) (.bool false) (.slice none 0 0) (.slice none 0 0) (.slice none 0 0) (.slice none 0 0)) := bR.chg (Chg.of_below (F := fun _ => False) SL.out) id
      have bD4 : Hid (DB 37 V w.heap.size vp (.slice (some ⟨b, off, none⟩) S.length cap)) := bD.below SL.out
      have bel4 : Hid (Below w.heap.size w V) := Below.and bel SL.out
      have hE4 : Hid (ErrIs ea V) := hE.below SL.out
      obtain ⟨x0, x1, _⟩ := SX.out.cells
      obtain ⟨c0, c1, _⟩ := bD4.out.cells
      clear d0 d1 tA bN bR bD bel hE HI
      have hsz4 : w.heap.size + 3 ≤ V.heap.size := by omega
      by_cases hle : kOf S j ≤ (openSt P S j).2
      · have HS : Hid (openSt P S (j + 1) = openSt P S j) := openSt_old (by omega)
        go_wp2
        go_roundw
        case rel => exact ⟨j + 1, (TV.mk al (.slice a1 a5 a9) (.slice a2 a6 aa) (.slice a3 a7 ab) (.slice a4 a8 ac)), by omega, by go_num, by rw [HS.out], al, a1, a2, a3, a4, a5, a6, a7, a8, a9, aa, ab, ac, rfl, by rw [HS.out]; exact (tA4.out).mono (fun g hg => ⟨hg.1, by have := hg.2; omega⟩), bN4.out, bR4.out, bD4.out, bel4.out, hsz4, hE4.out⟩
        case measure => simp [intOf]; omega
      · have hle' : decide (kOf S j ≤ (openSt P S j).2) = false := decide_eq_false hle
        go_wp2_with fail
        refine (implReadTree_any ea vp _ P hz (vOf S j) V (HV.out.1.below bel4.out) hE4.out).mono ?_
        rintro e w5 ⟨hn, b5⟩
        have y5 : V.heap.size ≤ w5.heap.size := b5.size
        cases hg : readT P (vOf S j) with
        | none =>
          rw [hg] at hn
          have hn' : e = .returned (.tuple #[treeZ, .bool false]) := hn
          subst hn'
          have HS : Hid (openSt P S (j + 1) = openSt P S j) := openSt_none hg
          have b6 : Below V.heap.size V (w5.alloc (.cells #[.bool false, .slice none 0 0, .slice none 0 0, .slice none 0 0, .slice none 0 0] 32)) := Below.and b5 (bel_new _ _)
          have s6 : (w5.alloc (.cells #[.bool false, .slice none 0 0, .slice none 0 0, .slice none 0 0, .slice none 0 0] 32)).heap.size = w5.heap.size + 1 := by simp
          have FIN : Hid _ := And.intro (tA4.out.below b6) (And.intro (bN4.out.chg (Chg.of_below (F := fun _ => False) b6) id) (And.intro (bR4.out.chg (Chg.of_below (F := fun _ => False) b6) id) (And.intro (bD4.out.below b6) (And.intro (Below.and bel4.out b6) (hE4.out.below b6)))))
          clear hn b5 b6 hg c0 c1 x0 x1
          go_wp2
          go_roundw
          case rel => exact ⟨j + 1, (TV.mk al (.slice a1 a5 a9) (.slice a2 a6 aa) (.slice a3 a7 ab) (.slice a4 a8 ac)), by omega, by go_num, by rw [HS.out], al, a1, a2, a3, a4, a5, a6, a7, a8, a9, aa, ab, ac, rfl, by rw [HS.out]; exact (FIN.out.1).mono (fun g hg => ⟨hg.1, by have := hg.2; omega⟩), FIN.out.2.1, FIN.out.2.2.1, FIN.out.2.2.2.1, FIN.out.2.2.2.2.1, by omega, FIN.out.2.2.2.2.2⟩
          case measure => simp [intOf]; omega
        | some T =>
          rw [hg] at hn
          obtain ⟨x, hx, t5⟩ := hn
          subst hx
          obtain ⟨gl, gp, gc, gk, gb⟩ := x
          obtain ⟨⟨g1, g5, g9, hs1⟩, ⟨g2, g6, ga, hs2⟩, ⟨g3, g7, gb, hs3⟩, ⟨g4, g8, gc, hs4⟩, _⟩ := TreeD.slices t5
          simp only at hs1 hs2 hs3 hs4
          subst hs1 hs2 hs3 hs4
          have HS : Hid (openSt P S (j + 1) = (some T, kOf S j)) := openSt_new hg (by omega)
          have b6 : Below V.heap.size V (w5.alloc (.cells #[.bool gl, .slice g1 g5 g9, .slice g2 g6 ga, .slice g3 g7 gb, .slice g4 g8 gc] 32)) := Below.and b5 (bel_new _ _)
          have s6 : (w5.alloc (.cells #[.bool gl, .slice g1 g5 g9, .slice g2 g6 ga, .slice g3 g7 gb, .slice g4 g8 gc] 32)).heap.size = w5.heap.size + 1 := by simp
          have q6 : BoxIs (w5.alloc (.cells #[.bool gl, .slice g1 g5 g9, .slice g2 g6 ga, .slice g3 g7 gb, .slice g4 g8 gc] 32)) w5.heap.size (.bool gl) (.slice g1 g5 g9) (.slice g2 g6 ga) (.slice g3 g7 gb) (.slice g4 g8 gc) := heap_alloc_new _ _
          have n6 := bN4.out.chg (Chg.of_below (F := fun _ => False) b6) id
          have r6 := bR4.out.chg (Chg.of_below (F := fun _ => False) b6) id
          have d6 := bD4.out.below b6
          have e6 := hE4.out.below b6
          have l6 := Below.and bel4.out b6
          have t6 := t5.below (bel_new w5 (.cells #[.bool gl, .slice g1 g5 g9, .slice g2 g6 ga, .slice g3 g7 gb, .slice g4 g8 gc] 32))
          have sx6 := SX.out.below b6
          generalize hW6 : w5.alloc (.cells #[.bool gl, .slice g1 g5 g9, .slice g2 g6 ga, .slice g3 g7 gb, .slice g4 g8 gc] 32) = W6 at *
          have E6 : Hid (w5.alloc (.cells #[.bool gl, .slice g1 g5 g9, .slice g2 g6 ga, .slice g3 g7 gb, .slice g4 g8 gc] 32) = W6) := hW6
          obtain ⟨k0, k1, k2, k3, k4⟩ := q6.cell
          obtain ⟨z0, z1, z2, z3, z4⟩ := n6.cell
          have zf := n6.live
          clear x0 x1 c0 c1
          obtain ⟨x0, x1, _⟩ := sx6.cells
          have g7c := (set5_chg W6 (w.heap.size + 1 + 1) (.bool gl) (.slice g1 g5 g9) (.slice g2 g6 ga) (.slice g3 g7 gb) (.slice g4 g8 gc)).drew
          have n7 : BoxIs ((set5 W6 (w.heap.size + 1 + 1) (.bool gl) (.slice g1 g5 g9) (.slice g2 g6 ga) (.slice g3 g7 gb) (.slice g4 g8 gc)).drew) (w.heap.size + 2) (.bool gl) (.slice g1 g5 g9) (.slice g2 g6 ga) (.slice g3 g7 gb) (.slice g4 g8 gc) := n6.set (.bool gl) (.slice g1 g5 g9) (.slice g2 g6 ga) (.slice g3 g7 gb) (.slice g4 g8 gc)
          have z7 : ((set5 W6 (w.heap.size + 1 + 1) (.bool gl) (.slice g1 g5 g9) (.slice g2 g6 ga) (.slice g3 g7 gb) (.slice g4 g8 gc)).drew).heap.size = W6.heap.size := by simp [set5]
          have r7 := r6.chg g7c (by omega)
          have d7 := d6.chg g7c (by omega)
          have e7 := e6.kept g7c (by omega)
          have l7 := l6.trans (g7c.below (fun g _ hg => by omega) l6.size)
          have t7 := (t6.chg g7c (fun g hg e => by have := hg.1; omega)).mono (G := Zone (w.heap.size + 3) ((set5 W6 (w.heap.size + 1 + 1) (.bool gl) (.slice g1 g5 g9) (.slice g2 g6 ga) (.slice g3 g7 gb) (.slice g4 g8 gc)).drew).heap.size) (fun g hg => ⟨by have := hg.1; omega, by have := hg.2; omega⟩)
          have FIN : Hid _ := And.intro t7 (And.intro n7 (And.intro r7 (And.intro d7 (And.intro l7 (And.intro z7 e7)))))
          unfold set5 at FIN
          have FD : Hid _ := And.intro l7.size z7
          clear hg hW6 t5 t6 q6 n6 r6 d6 e6 l6 sx6 g7c n7 r7 d7 e7 l7 t7 b5 b6 z7
          go_upto_region 8 with fail
          rw [E6.out]
          go_wp2_with fail
          go_region
          all_goals
            go_wp2
            go_roundw
            case rel => exact ⟨j + 1, (TV.mk gl (.slice g1 g5 g9) (.slice g2 g6 ga) (.slice g3 g7 gb) (.slice g4 g8 gc)), by omega, by go_num, by rw [HS.out], gl, g1, g2, g3, g4, g5, g6, g7, g8, g9, ga, gb, gc, rfl, by rw [HS.out]; exact FIN.out.1, FIN.out.2.1, FIN.out.2.2.1, FIN.out.2.2.2.1, FIN.out.2.2.2.2.1, by have := FIN.out.2.2.2.2.2.1; omega, FIN.out.2.2.2.2.2.2⟩
            case measure => simp [intOf]; omega
    · have hjl : j = S.length := by omega
      subst hjl
      obtain ⟨k0, k1, k2, k3, k4⟩ := bN.cell
      obtain ⟨z0, z1, z2, z3, z4⟩ := bR.cell
      have zf := bR.live
      have g7c := set5_chg wr (w.heap.size + 1) (.bool al) (.slice a1 a5 a9) (.slice a2 a6 aa) (.slice a3 a7 ab) (.slice a4 a8 ac)
      have n7 := (bR.set (.bool al) (.slice a1 a5 a9) (.slice a2 a6 aa) (.slice a3 a7 ab) (.slice a4 a8 ac)).cell
      have z7 : (set5 wr (w.heap.size + 1) (.bool al) (.slice a1 a5 a9) (.slice a2 a6 aa) (.slice a3 a7 ab) (.slice a4 a8 ac)).heap.size = wr.heap.size := by simp [set5]
      have l7 := bel.trans (g7c.below (fun g _ hg => by omega) bel.size)
      have t7 := (tA.chg g7c (fun g hg e => by have := hg.1; omega)).mono (G := Zone w.heap.size (set5 wr (w.heap.size + 1) (.bool al) (.slice a1 a5 a9) (.slice a2 a6 aa) (.slice a3 a7 ab) (.slice a4 a8 ac)).heap.size) (fun g hg => ⟨by have := hg.1; omega, by have := hg.2; omega⟩)
      unfold set5 at n7 l7 t7
      obtain ⟨v0, v1, v2, v3, v4⟩ := n7
      have FIN : Hid _ := And.intro t7 l7
      clear g7c z7 l7 t7 tA bN bR bD bel hE HI c0 c1
      go_wp2
      simp [bodyPost, results, Tryd.results15, go_sem, v0, v1, v2, v3, v4]
      exact ⟨⟨(TV.mk al (.slice a1 a5 a9) (.slice a2 a6 aa) (.slice a3 a7 ab) (.slice a4 a8 ac)), by simp, FIN.out.1⟩, FIN.out.2⟩

end Go.Proofs.YtckphbmlmjlipaaDoor
