/-
  The model's Open.
-/
import Derived.Test.YtckphbmlmjlipaaDoorOpenM
import Derived.Test.YtckphbmlmjlipaaDoorRdTop
namespace Go.Proofs.YtckphbmlmjlipaaDoor
open Go.RowKit

theorem run_sReadTree (args : Array Value) (w : World) : (callFunc 6 args).run Tryd.prog w = .ok (.enter 6 args) w := by go_simp

set_option maxRecDepth 100000 in
set_option maxHeartbeats 2000000 in
theorem specOpen_any (vp vs : Value) (P : List ByteArray) (S : List (Int × Int)) (hz : ∀ s ∈ P, s.size ≤ maxLen ∧ s.size ≤ 1099511627776) (w : World) (hr : Row w vp P.length (flatS P)) (hs : Row w vs S.length (flatP S)) :
    Calls Tryd.prog 14 #[.agg #[vp, vs]] w fun e w' => OpenRd w.heap.size (openSt P S S.length) e w' ∧ Below w.heap.size w w' := by
  obtain ⟨a, b, off, cap, rfl, hcap, hmax, ha, hx0, hx1⟩ := hs.pairs
  unfold maxLen at hmax
  have b3 : Below w.heap.size w (((w.alloc (.cells #[vp, (.slice a S.length cap)] 37)).alloc (.cells #[.bool false, .slice none 0 0, .slice none 0 0, .slice none 0 0, .slice none 0 0] 32)).alloc (.cells #[.bool false, .slice none 0 0, .slice none 0 0, .slice none 0 0, .slice none 0 0] 32)) := Below.and (bel_new _ _) (Below.and (bel_new _ _) (bel_new _ _))
  have D3 : DB 37 (((w.alloc (.cells #[vp, (.slice a S.length cap)] 37)).alloc (.cells #[.bool false, .slice none 0 0, .slice none 0 0, .slice none 0 0, .slice none 0 0] 32)).alloc (.cells #[.bool false, .slice none 0 0, .slice none 0 0, .slice none 0 0, .slice none 0 0] 32)) w.heap.size vp (.slice a S.length cap) := ((DB.new _ _ _ _).below (bel_new _ _)).below (bel_new _ _)
  have R3 : BoxIs (((w.alloc (.cells #[vp, (.slice a S.length cap)] 37)).alloc (.cells #[.bool false, .slice none 0 0, .slice none 0 0, .slice none 0 0, .slice none 0 0] 32)).alloc (.cells #[.bool false, .slice none 0 0, .slice none 0 0, .slice none 0 0, .slice none 0 0] 32)) (w.heap.size + 1) (.bool false) (.slice none 0 0) (.slice none 0 0) (.slice none 0 0) (.slice none 0 0) := by
    have : BoxIs ((w.alloc (.cells #[vp, (.slice a S.length cap)] 37)).alloc (.cells #[.bool false, .slice none 0 0, .slice none 0 0, .slice none 0 0, .slice none 0 0] 32)) (w.heap.size + 1) (.bool false) (.slice none 0 0) (.slice none 0 0) (.slice none 0 0) (.slice none 0 0) := by
      have := heap_alloc_new (w.alloc (.cells #[vp, (.slice a S.length cap)] 37)) (.cells #[.bool false, .slice none 0 0, .slice none 0 0, .slice none 0 0, .slice none 0 0] 32)
      rw [World.size_alloc] at this
      exact this
    exact this.chg (Chg.of_below (F := fun _ => False) (bel_new _ _)) id
  have N3 : BoxIs (((w.alloc (.cells #[vp, (.slice a S.length cap)] 37)).alloc (.cells #[.bool false, .slice none 0 0, .slice none 0 0, .slice none 0 0, .slice none 0 0] 32)).alloc (.cells #[.bool false, .slice none 0 0, .slice none 0 0, .slice none 0 0, .slice none 0 0] 32)) (w.heap.size + 2) (.bool false) (.slice none 0 0) (.slice none 0 0) (.slice none 0 0) (.slice none 0 0) := by
    have := heap_alloc_new ((w.alloc (.cells #[vp, (.slice a S.length cap)] 37)).alloc (.cells #[.bool false, .slice none 0 0, .slice none 0 0, .slice none 0 0, .slice none 0 0] 32)) (.cells #[.bool false, .slice none 0 0, .slice none 0 0, .slice none 0 0, .slice none 0 0] 32)
    rw [World.size_alloc, World.size_alloc] at this
    exact this
  have s3 : (((w.alloc (.cells #[vp, (.slice a S.length cap)] 37)).alloc (.cells #[.bool false, .slice none 0 0, .slice none 0 0, .slice none 0 0, .slice none 0 0] 32)).alloc (.cells #[.bool false, .slice none 0 0, .slice none 0 0, .slice none 0 0, .slice none 0 0] 32)).heap.size = w.heap.size + 3 := by simp
  generalize hW3 : ((w.alloc (.cells #[vp, (.slice a S.length cap)] 37)).alloc (.cells #[.bool false, .slice none 0 0, .slice none 0 0, .slice none 0 0, .slice none 0 0] 32)).alloc (.cells #[.bool false, .slice none 0 0, .slice none 0 0, .slice none 0 0, .slice none 0 0] 32) = W3 at b3 D3 R3 N3 s3
  have E3 : Hid (((w.alloc (.cells #[vp, (.slice a S.length cap)] 37)).alloc (.cells #[.bool false, .slice none 0 0, .slice none 0 0, .slice none 0 0, .slice none 0 0] 32)).alloc (.cells #[.bool false, .slice none 0 0, .slice none 0 0, .slice none 0 0, .slice none 0 0] 32) = W3) := hW3
  have H0 : Hid _ := And.intro b3 (And.intro D3 (And.intro R3 (And.intro N3 s3)))
  have HV : Hid _ := And.intro hr (And.intro ha (And.intro hx0 hx1))
  obtain ⟨c0, c1, _⟩ := D3.cells
  clear hW3 b3 D3 R3 N3 hr ha hx0 hx1 hs
  have hv0 : (openSt P S 0).2 = 0 := rfl
  go_enter Tryd.func14, Tryd.ntmps14
  go_upto_region 2 with fail
  rw [E3.out]
  go_wp2_with fail
  go_loopw [6, 7] (fun vv i wr => ∃ (j : Nat) (x : TV), j ≤ S.length ∧ i = .int .i64 j ∧ vv = .int .i64 (openSt P S j).2 ∧ Hid (∃ (al : Bool) (a1 a2 a3 a4 : Option Addr) (a5 a6 a7 a8 a9 aa ab ac : Nat), x = (TV.mk al (.slice a1 a5 a9) (.slice a2 a6 aa) (.slice a3 a7 ab) (.slice a4 a8 ac)) ∧ TreeD 7 wr (Zone (w.heap.size + 3) wr.heap.size) (TV.mk al (.slice a1 a5 a9) (.slice a2 a6 aa) (.slice a3 a7 ab) (.slice a4 a8 ac)) ((openSt P S j).1.getD noneT) ∧ BoxIs wr (w.heap.size + 2) (.bool al) (.slice a1 a5 a9) (.slice a2 a6 aa) (.slice a3 a7 ab) (.slice a4 a8 ac) ∧ BoxIs wr (w.heap.size + 1) (.bool false) (.slice none 0 0) (.slice none 0 0) (.slice none 0 0) (.slice none 0 0) ∧ DB 37 wr w.heap.size vp (.slice a S.length cap) ∧ Below w.heap.size w wr ∧ w.heap.size + 3 ≤ wr.heap.size)) (fun _ i _ => S.length - (intOf i).toNat)
  case atStart => exact ⟨0, TV.mk false (.slice none 0 0) (.slice none 0 0) (.slice none 0 0) (.slice none 0 0), Nat.zero_le _, rfl, rfl, false, none, none, none, none, 0, 0, 0, 0, 0, 0, 0, 0, rfl, zeroD _ _, H0.out.2.2.2.1, H0.out.2.2.1, H0.out.2.1, H0.out.1, by have := H0.out.2.2.2.2; omega⟩
  case round =>
    obtain ⟨j, x, hj, rfl, rfl, HI⟩ := hrel
    obtain ⟨al, a1, a2, a3, a4, a5, a6, a7, a8, a9, aa, ab, ac, hx, tA, bN, bR, bD, bel, hsz⟩ := HI.out
    subst hx
    by_cases hlt : j < S.length
    · have hal := HV.out.2.1 (by omega)
      subst hal
      have hb0 : b < w.heap.size := cell_lt (HV.out.2.2.1 j hlt)
      have d0 := (bel.cell (by exact cell_lt (HV.out.2.2.1 j hlt))).trans (HV.out.2.2.1 j hlt)
      have d1 := (bel.cell (by exact cell_lt (HV.out.2.2.2 j hlt))).trans (HV.out.2.2.2 j hlt)
      have KEEP : Hid (∀ u, Below wr.heap.size wr u → (fun u => u.cell? ⟨w.heap.size, 0, none⟩ = some vp ∧ u.cell? ⟨w.heap.size, 1, none⟩ = some (.slice (some ⟨b, off, none⟩) S.length cap) ∧ u.cell? ⟨b, off + j * 2 + 1, none⟩ = some (.int .i64 (vOf S j))) u) := fun u hu => by
        have := (bD.below hu).cells
        exact ⟨this.1, this.2.1, (hu.cell (by show b < wr.heap.size; omega)).trans d1⟩
      have HC : Hid (∀ u, Below wr.heap.size wr u → Calls Tryd.prog 6 #[.agg #[vp, (.slice (some ⟨b, off, none⟩) S.length cap)], .int .i64 (vOf S j)] u fun e w' => ReadRd u.heap.size (readT P (vOf S j)) e w' ∧ Below u.heap.size u w') := fun u hu => specReadTree_any vp _ P hz (vOf S j) u (HV.out.1.below (Below.and bel hu))
      have II : Hid (TreeD 7 wr (Zone (w.heap.size + 3) wr.heap.size) (TV.mk al (.slice a1 a5 a9) (.slice a2 a6 aa) (.slice a3 a7 ab) (.slice a4 a8 ac)) ((openSt P S j).1.getD noneT) ∧ BoxIs wr (w.heap.size + 2) (.bool al) (.slice a1 a5 a9) (.slice a2 a6 aa) (.slice a3 a7 ab) (.slice a4 a8 ac) ∧ BoxIs wr (w.heap.size + 1) (.bool false) (.slice none 0 0) (.slice none 0 0) (.slice none 0 0) (.slice none 0 0) ∧ DB 37 wr w.heap.size vp (.slice (some ⟨b, off, none⟩) S.length cap) ∧ Below w.heap.size w wr) := ⟨tA, bN, bR, bD, bel⟩
      have hb1 : (0 : Int) ≤ (j : Int) := by omega
      have hb2 : (j : Int) < (S.length : Int) := by omega
      clear c0 c1
      obtain ⟨c0, c1, _⟩ := bD.cells
      clear tA bN bR bD bel HI
      cases hg : readT P (vOf S j) with
      | none =>
        rw [hg] at HC
        have HS : Hid (openSt P S (j + 1) = openSt P S j) := openSt_none hg
        clear hg
        go_wp2_with fail
        have SL : Hid (Below wr.heap.size wr wr.drew) := (Below.refl _ _).drew
        refine wp_region_held_drew (S := (fun u => u.cell? ⟨w.heap.size, 0, none⟩ = some vp ∧ u.cell? ⟨w.heap.size, 1, none⟩ = some (.slice (some ⟨b, off, none⟩) S.length cap) ∧ u.cell? ⟨b, off + j * 2 + 1, none⟩ = some (.int .i64 (vOf S j)))) (by kernel_rfl) (KEEP.out _ SL.out) (fun hH => ?_)
        refine wpAnyH_take (i := 0) (oi := ⟨_, _, _, _, _, _⟩) (v := ?_) rfl (by kernel_rfl) (by kernel_rfl) (by kernel_rfl) (fun _ _ _ h => h) (Or.inl ⟨by rfl, ?_⟩) (by assumption) ?_
        rotate_left
        · ((intro w hSw; (try dsimp only at hSw); go_simp); (try with_reducible rfl))
        try simp only [Act.put, List.setIfInBounds_toArray, List.set_cons_zero, List.set_cons_succ]
        refine wpAnyH_take (i := 1) (oi := ⟨_, _, _, _, _, _⟩) (v := ?_) rfl (by kernel_rfl) (by kernel_rfl) (by kernel_rfl) (fun _ _ _ h => h) (Or.inl ⟨by rfl, ?_⟩) (by assumption) ?_
        rotate_left
        · ((intro w hSw; (try dsimp only at hSw); go_simp); (try with_reducible rfl))
        try simp only [Act.put, List.setIfInBounds_toArray, List.set_cons_zero, List.set_cons_succ]
        refine wpAnyH_take (i := 2) (oi := ⟨_, _, _, _, _, _⟩) (v := ?_) rfl (by kernel_rfl) (by kernel_rfl) (by kernel_rfl) (fun _ _ _ h => h) (Or.inl ⟨by rfl, ?_⟩) (by assumption) ?_
        rotate_left
        · ((intro w hSw; (try dsimp only at hSw); go_simp); (try with_reducible rfl))
        try simp only [Act.put, List.setIfInBounds_toArray, List.set_cons_zero, List.set_cons_succ]
        refine wpAnyH_take (i := 3) (oi := ⟨_, _, _, _, _, _⟩) (v := ?_) rfl (by kernel_rfl) (by kernel_rfl) (by kernel_rfl) (fun _ _ _ h => h) (Or.inl ⟨by rfl, ?_⟩) (by assumption) ?_
        rotate_left
        · ((intro w hSw; (try dsimp only at hSw); go_simp); (try with_reducible rfl))
        try simp only [Act.put, List.setIfInBounds_toArray, List.set_cons_zero, List.set_cons_succ]
        refine wpAnyH_take (i := 4) (oi := ⟨_, _, _, _, _, _⟩) (v := ?_) rfl (by kernel_rfl) (by kernel_rfl) (by kernel_rfl) (fun _ _ _ h => h) (Or.inl ⟨by rfl, ?_⟩) (by assumption) ?_
        rotate_left
        · ((intro w hSw; (try dsimp only at hSw); go_simp); (try with_reducible rfl))
        try simp only [Act.put, List.setIfInBounds_toArray, List.set_cons_zero, List.set_cons_succ]
        refine wpAnyH_take (i := 5) (oi := ⟨_, _, _, _, _, _⟩) (v := ?_) rfl (by kernel_rfl) (by kernel_rfl) (by kernel_rfl) (fun _ _ _ h => h) (Or.inl ⟨by rfl, ?_⟩) (by assumption) ?_
        rotate_left
        · ((intro w hSw; (try dsimp only at hSw); go_simp); (try with_reducible rfl))
        try simp only [Act.put, List.setIfInBounds_toArray, List.set_cons_zero, List.set_cons_succ]
        refine wpAnyH_take (i := 6) (oi := ⟨_, _, _, _, _, _⟩) (v := ?_) rfl (by kernel_rfl) (by kernel_rfl) (by kernel_rfl) (fun _ _ _ h => h) (Or.inl ⟨by rfl, ?_⟩) (by assumption) ?_
        rotate_left
        · ((intro w hSw; (try dsimp only at hSw); go_simp); (try with_reducible rfl))
        try simp only [Act.put, List.setIfInBounds_toArray, List.set_cons_zero, List.set_cons_succ]
        refine wpAnyH_ready (rs := [7, 11]) (by kernel_rfl) (by simp) ?_
        refine AllReadyH.cons (o := ⟨_, _, _, _, _, _⟩) rfl (fun K hK => ?_) (AllReadyH.cons (o := ⟨_, _, _, _, _, _⟩) rfl (fun K hK => ?_) AllReadyH.nil)
        · refine (if_pos (show Region.wanted _ _ = true by kernel_rfl)).mpr ?_
          refine end_call 6 [.tmp 19, .tmp 25] #[37, 3] rfl run_sReadTree [.agg #[vp, (.slice (some ⟨b, off, none⟩) S.length cap)], .int .i64 (vOf S j)] rfl (HC.out wr.drew SL.out) ?_
          rintro e w5 ⟨h5, b5⟩
          have h5' : e = .returned (.tuple #[treeZ, .bool false]) := h5
          subst h5'
          have bb5 : Below wr.heap.size wr w5 := Below.and SL.out b5
          refine .inl ⟨_, rfl, ?_⟩
          refine hK.out _ _ (KEEP.out _ bb5) (fun hH2 => ?_)
          clear hK K hH
          have hH := hH2
          clear hH2
          try simp only [Act.put, List.setIfInBounds_toArray, List.set_cons_zero, List.set_cons_succ]
          refine wpAnyH_take (i := 8) (oi := ⟨_, _, _, _, _, _⟩) (v := ?_) rfl (by kernel_rfl) (by kernel_rfl) (by kernel_rfl) (fun _ _ _ h => h) (Or.inl ⟨by rfl, ?_⟩) (by assumption) ?_
          rotate_left
          · ((intro w hSw; (try dsimp only at hSw); go_simp); (try with_reducible rfl))
          try simp only [Act.put, List.setIfInBounds_toArray, List.set_cons_zero, List.set_cons_succ]
          refine wpAnyH_take (i := 9) (oi := ⟨_, _, _, _, _, _⟩) (v := ?_) rfl (by kernel_rfl) (by kernel_rfl) (by kernel_rfl) (fun _ _ _ h => h) (Or.inl ⟨by rfl, ?_⟩) (by assumption) ?_
          rotate_left
          · ((intro w hSw; (try dsimp only at hSw); go_simp); (try with_reducible rfl))
          try simp only [Act.put, List.setIfInBounds_toArray, List.set_cons_zero, List.set_cons_succ]
          refine wpAnyH_take (i := 10) (oi := ⟨_, _, _, _, _, _⟩) (v := ?_) rfl (by kernel_rfl) (by kernel_rfl) (by kernel_rfl) (fun _ _ _ h => h) (Or.inl ⟨by rfl, ?_⟩) (by assumption) ?_
          rotate_left
          · ((intro w hSw; (try dsimp only at hSw); go_simp); (try with_reducible rfl))
          try simp only [Act.put, List.setIfInBounds_toArray, List.set_cons_zero, List.set_cons_succ]
          refine wpAnyH_ready (rs := [11]) (by kernel_rfl) (by simp) ?_
          refine AllReadyH.cons (o := ⟨_, _, _, _, _, _⟩) rfl (fun K hK => ?_) AllReadyH.nil
          go_simp
          refine hK.out _ _ (KEEP.out _ (Below.and bb5 (bel_new _ _))) (fun hH2 => ?_)
          clear hK K hH
          have hH := hH2
          clear hH2
          try simp only [Act.put, List.setIfInBounds_toArray, List.set_cons_zero, List.set_cons_succ]
          refine wpAnyH_ready (rs := [12]) (by kernel_rfl) (by simp) ?_
          refine AllReadyH.cons (o := ⟨_, _, _, _, _, _⟩) rfl (fun K hK => ?_) AllReadyH.nil
          go_simp
          refine hK.out _ _ (KEEP.out _ (Below.and bb5 (bel_new _ _))) (fun hH2 => ?_)
          clear hK K hH
          have hH := hH2
          clear hH2
          try simp only [Act.put, List.setIfInBounds_toArray, List.set_cons_zero, List.set_cons_succ]
          refine wpAnyH_take (i := 13) (oi := ⟨_, _, _, _, _, _⟩) (v := ?_) rfl (by kernel_rfl) (by kernel_rfl) (by kernel_rfl) (fun _ _ _ h => h) (Or.inl ⟨by rfl, ?_⟩) (by assumption) ?_
          rotate_left
          · ((intro w hSw; (try dsimp only at hSw); go_simp); (try with_reducible rfl))
          try simp only [Act.put, List.setIfInBounds_toArray, List.set_cons_zero, List.set_cons_succ]
          refine wpAnyH_done (by kernel_rfl) ?_ _
          clear hH
          have bb6 : Below wr.heap.size wr (w5.alloc (.cells #[.bool false, .slice none 0 0, .slice none 0 0, .slice none 0 0, .slice none 0 0] 32)) := Below.and bb5 (bel_new _ _)
          have Q6 : (w5.alloc (.cells #[.bool false, .slice none 0 0, .slice none 0 0, .slice none 0 0, .slice none 0 0] 32)).heap[w5.heap.size]? = some (.cells #[.bool false, .slice none 0 0, .slice none 0 0, .slice none 0 0, .slice none 0 0] 32 (0, 0)) := heap_alloc_new _ _
          have hq : wr.heap.size ≤ w5.heap.size := bb5.size
          have t6 := II.out.1.below bb6
          have N6 := II.out.2.1.chg (Chg.of_below (F := fun _ => False) bb6) id
          have R6 := II.out.2.2.1.chg (Chg.of_below (F := fun _ => False) bb6) id
          have D6 := II.out.2.2.2.1.below bb6
          have L6 := Below.and II.out.2.2.2.2 bb6
          have z6 : wr.heap.size ≤ (w5.alloc (.cells #[.bool false, .slice none 0 0, .slice none 0 0, .slice none 0 0, .slice none 0 0] 32)).heap.size := bb6.size
          have e0 := (bb6.cell (by show b < wr.heap.size; omega)).trans d0
          have e1 := (bb6.cell (by show b < wr.heap.size; omega)).trans d1
          generalize (w5.alloc (.cells #[.bool false, .slice none 0 0, .slice none 0 0, .slice none 0 0, .slice none 0 0] 32)) = W6 at *
          have t7 := t6.mono (G := Zone (w.heap.size + 3) W6.heap.size) (fun g hg => ⟨hg.1, by have := hg.2; omega⟩)
          have FIN : Hid _ := And.intro t7 (And.intro N6 (And.intro R6 (And.intro D6 (And.intro L6 z6))))
          clear c0 c1
          obtain ⟨c0, c1, _⟩ := D6.cells
          clear t6 t7 N6 R6 D6 L6 Q6 bb6 bb5 KEEP HC II d0 d1
          go_wp2
          go_roundw
          case rel => exact ⟨j + 1, (TV.mk al (.slice a1 a5 a9) (.slice a2 a6 aa) (.slice a3 a7 ab) (.slice a4 a8 ac)), by omega, by go_num, by rw [HS.out], al, a1, a2, a3, a4, a5, a6, a7, a8, a9, aa, ab, ac, rfl, by rw [HS.out]; exact FIN.out.1, FIN.out.2.1, FIN.out.2.2.1, FIN.out.2.2.2.1, FIN.out.2.2.2.2.1, by have := FIN.out.2.2.2.2.2; omega⟩
          case measure => simp [intOf]; omega
        · go_simp
          have SV : Hid (Below wr.heap.size wr (wr.drew.alloc (.cells #[.bool false, .slice none 0 0, .slice none 0 0, .slice none 0 0, .slice none 0 0] 32))) := Below.and SL.out (bel_new _ _)
          have NV : Hid (BoxIs (wr.drew.alloc (.cells #[.bool false, .slice none 0 0, .slice none 0 0, .slice none 0 0, .slice none 0 0] 32)) wr.heap.size (.bool false) (.slice none 0 0) (.slice none 0 0) (.slice none 0 0) (.slice none 0 0)) := heap_alloc_new wr.drew (.cells #[.bool false, .slice none 0 0, .slice none 0 0, .slice none 0 0, .slice none 0 0] 32)
          refine hK.out _ _ (KEEP.out _ SV.out) (fun hH2 => ?_)
          clear hK K hH
          have hH := hH2
          clear hH2
          try simp only [Act.put, List.setIfInBounds_toArray, List.set_cons_zero, List.set_cons_succ]
          refine wpAnyH_ready (rs := [7]) (by kernel_rfl) (by simp) ?_
          refine AllReadyH.cons (o := ⟨_, _, _, _, _, _⟩) rfl (fun K hK => ?_) AllReadyH.nil
          refine (if_pos (show Region.wanted _ _ = true by kernel_rfl)).mpr ?_
          refine end_call 6 [.tmp 19, .tmp 25] #[37, 3] rfl run_sReadTree [.agg #[vp, (.slice (some ⟨b, off, none⟩) S.length cap)], .int .i64 (vOf S j)] rfl (HC.out _ SV.out) ?_
          rintro e w5 ⟨h5, b5⟩
          have h5' : e = .returned (.tuple #[treeZ, .bool false]) := h5
          subst h5'
          have bb5 : Below wr.heap.size wr w5 := Below.and SV.out b5
          have QV := NV.out.chg (Chg.of_below (F := fun _ => False) b5) id
          have gV := set5_chg w5 wr.heap.size (.bool false) (.slice none 0 0) (.slice none 0 0) (.slice none 0 0) (.slice none 0 0)
          have bb6 : Below wr.heap.size wr (set5 w5 wr.heap.size (.bool false) (.slice none 0 0) (.slice none 0 0) (.slice none 0 0) (.slice none 0 0)) := bb5.trans (gV.below (fun g _ hg => by omega) bb5.size)
          have Q6 : (set5 w5 wr.heap.size (.bool false) (.slice none 0 0) (.slice none 0 0) (.slice none 0 0) (.slice none 0 0)).heap[wr.heap.size]? = some (.cells #[.bool false, .slice none 0 0, .slice none 0 0, .slice none 0 0, .slice none 0 0] 32 (0, 0)) := QV.set (.bool false) (.slice none 0 0) (.slice none 0 0) (.slice none 0 0) (.slice none 0 0)
          have zV : (set5 w5 wr.heap.size (.bool false) (.slice none 0 0) (.slice none 0 0) (.slice none 0 0) (.slice none 0 0)).heap.size = w5.heap.size := by simp [set5]
          obtain ⟨cz0, cz1, cz2, cz3, cz4⟩ := QV.cell
          have czf := QV.live
          unfold set5 at bb6 Q6 zV gV
          have hq : wr.heap.size ≤ wr.heap.size := Nat.le_refl _
          refine .inl ⟨_, rfl, ?_⟩
          refine hK.out _ _ (KEEP.out _ bb5) (fun hH2 => ?_)
          clear hK K hH
          have hH := hH2
          clear hH2
          try simp only [Act.put, List.setIfInBounds_toArray, List.set_cons_zero, List.set_cons_succ]
          refine wpAnyH_take (i := 8) (oi := ⟨_, _, _, _, _, _⟩) (v := ?_) rfl (by kernel_rfl) (by kernel_rfl) (by kernel_rfl) (fun _ _ _ h => h) (Or.inl ⟨by rfl, ?_⟩) (by assumption) ?_
          rotate_left
          · ((intro w hSw; (try dsimp only at hSw); go_simp); (try with_reducible rfl))
          try simp only [Act.put, List.setIfInBounds_toArray, List.set_cons_zero, List.set_cons_succ]
          refine wpAnyH_take (i := 9) (oi := ⟨_, _, _, _, _, _⟩) (v := ?_) rfl (by kernel_rfl) (by kernel_rfl) (by kernel_rfl) (fun _ _ _ h => h) (Or.inl ⟨by rfl, ?_⟩) (by assumption) ?_
          rotate_left
          · ((intro w hSw; (try dsimp only at hSw); go_simp); (try with_reducible rfl))
          try simp only [Act.put, List.setIfInBounds_toArray, List.set_cons_zero, List.set_cons_succ]
          refine wpAnyH_take (i := 10) (oi := ⟨_, _, _, _, _, _⟩) (v := ?_) rfl (by kernel_rfl) (by kernel_rfl) (by kernel_rfl) (fun _ _ _ h => h) (Or.inl ⟨by rfl, ?_⟩) (by assumption) ?_
          rotate_left
          · ((intro w hSw; (try dsimp only at hSw); go_simp); (try with_reducible rfl))
          try simp only [Act.put, List.setIfInBounds_toArray, List.set_cons_zero, List.set_cons_succ]
          refine wpAnyH_ready (rs := [12]) (by kernel_rfl) (by simp) ?_
          refine AllReadyH.cons (o := ⟨_, _, _, _, _, _⟩) rfl (fun K hK => ?_) AllReadyH.nil
          go_simp
          refine hK.out _ _ (KEEP.out _ bb6) (fun hH2 => ?_)
          clear hK K hH
          have hH := hH2
          clear hH2
          try simp only [Act.put, List.setIfInBounds_toArray, List.set_cons_zero, List.set_cons_succ]
          refine wpAnyH_take (i := 13) (oi := ⟨_, _, _, _, _, _⟩) (v := ?_) rfl (by kernel_rfl) (by kernel_rfl) (by kernel_rfl) (fun _ _ _ h => h) (Or.inl ⟨by rfl, ?_⟩) (by assumption) ?_
          rotate_left
          · ((intro w hSw; (try dsimp only at hSw); go_simp); (try with_reducible rfl))
          try simp only [Act.put, List.setIfInBounds_toArray, List.set_cons_zero, List.set_cons_succ]
          refine wpAnyH_done (by kernel_rfl) ?_ _
          clear hH cz0 cz1 cz2 cz3 cz4 czf
          have t6 := II.out.1.below bb6
          have N6 := II.out.2.1.chg (Chg.of_below (F := fun _ => False) bb6) id
          have R6 := II.out.2.2.1.chg (Chg.of_below (F := fun _ => False) bb6) id
          have D6 := II.out.2.2.2.1.below bb6
          have L6 := Below.and II.out.2.2.2.2 bb6
          have z6 : wr.heap.size ≤ (((((w5.setCell ⟨wr.heap.size, 0, none⟩ (.bool false)).setCell ⟨wr.heap.size, 1, none⟩ (.slice none 0 0)).setCell ⟨wr.heap.size, 2, none⟩ (.slice none 0 0)).setCell ⟨wr.heap.size, 3, none⟩ (.slice none 0 0)).setCell ⟨wr.heap.size, 4, none⟩ (.slice none 0 0)).heap.size := bb6.size
          have e0 := (bb6.cell (by show b < wr.heap.size; omega)).trans d0
          have e1 := (bb6.cell (by show b < wr.heap.size; omega)).trans d1
          generalize (((((w5.setCell ⟨wr.heap.size, 0, none⟩ (.bool false)).setCell ⟨wr.heap.size, 1, none⟩ (.slice none 0 0)).setCell ⟨wr.heap.size, 2, none⟩ (.slice none 0 0)).setCell ⟨wr.heap.size, 3, none⟩ (.slice none 0 0)).setCell ⟨wr.heap.size, 4, none⟩ (.slice none 0 0)) = W6 at *
          have t7 := t6.mono (G := Zone (w.heap.size + 3) W6.heap.size) (fun g hg => ⟨hg.1, by have := hg.2; omega⟩)
          have FIN : Hid _ := And.intro t7 (And.intro N6 (And.intro R6 (And.intro D6 (And.intro L6 z6))))
          clear c0 c1
          obtain ⟨c0, c1, _⟩ := D6.cells
          clear t6 t7 N6 R6 D6 L6 Q6 bb6 bb5 KEEP HC II d0 d1
          go_wp2
          go_roundw
          case rel => exact ⟨j + 1, (TV.mk al (.slice a1 a5 a9) (.slice a2 a6 aa) (.slice a3 a7 ab) (.slice a4 a8 ac)), by omega, by go_num, by rw [HS.out], al, a1, a2, a3, a4, a5, a6, a7, a8, a9, aa, ab, ac, rfl, by rw [HS.out]; exact FIN.out.1, FIN.out.2.1, FIN.out.2.2.1, FIN.out.2.2.2.1, FIN.out.2.2.2.2.1, by have := FIN.out.2.2.2.2.2; omega⟩
          case measure => simp [intOf]; omega
      | some T =>
        rw [hg] at HC
        go_wp2_with fail
        have SL : Hid (Below wr.heap.size wr wr.drew) := (Below.refl _ _).drew
        refine wp_region_held_drew (S := (fun u => u.cell? ⟨w.heap.size, 0, none⟩ = some vp ∧ u.cell? ⟨w.heap.size, 1, none⟩ = some (.slice (some ⟨b, off, none⟩) S.length cap) ∧ u.cell? ⟨b, off + j * 2 + 1, none⟩ = some (.int .i64 (vOf S j)))) (by kernel_rfl) (KEEP.out _ SL.out) (fun hH => ?_)
        refine wpAnyH_take (i := 0) (oi := ⟨_, _, _, _, _, _⟩) (v := ?_) rfl (by kernel_rfl) (by kernel_rfl) (by kernel_rfl) (fun _ _ _ h => h) (Or.inl ⟨by rfl, ?_⟩) (by assumption) ?_
        rotate_left
        · ((intro w hSw; (try dsimp only at hSw); go_simp); (try with_reducible rfl))
        try simp only [Act.put, List.setIfInBounds_toArray, List.set_cons_zero, List.set_cons_succ]
        refine wpAnyH_take (i := 1) (oi := ⟨_, _, _, _, _, _⟩) (v := ?_) rfl (by kernel_rfl) (by kernel_rfl) (by kernel_rfl) (fun _ _ _ h => h) (Or.inl ⟨by rfl, ?_⟩) (by assumption) ?_
        rotate_left
        · ((intro w hSw; (try dsimp only at hSw); go_simp); (try with_reducible rfl))
        try simp only [Act.put, List.setIfInBounds_toArray, List.set_cons_zero, List.set_cons_succ]
        refine wpAnyH_take (i := 2) (oi := ⟨_, _, _, _, _, _⟩) (v := ?_) rfl (by kernel_rfl) (by kernel_rfl) (by kernel_rfl) (fun _ _ _ h => h) (Or.inl ⟨by rfl, ?_⟩) (by assumption) ?_
        rotate_left
        · ((intro w hSw; (try dsimp only at hSw); go_simp); (try with_reducible rfl))
        try simp only [Act.put, List.setIfInBounds_toArray, List.set_cons_zero, List.set_cons_succ]
        refine wpAnyH_take (i := 3) (oi := ⟨_, _, _, _, _, _⟩) (v := ?_) rfl (by kernel_rfl) (by kernel_rfl) (by kernel_rfl) (fun _ _ _ h => h) (Or.inl ⟨by rfl, ?_⟩) (by assumption) ?_
        rotate_left
        · ((intro w hSw; (try dsimp only at hSw); go_simp); (try with_reducible rfl))
        try simp only [Act.put, List.setIfInBounds_toArray, List.set_cons_zero, List.set_cons_succ]
        refine wpAnyH_take (i := 4) (oi := ⟨_, _, _, _, _, _⟩) (v := ?_) rfl (by kernel_rfl) (by kernel_rfl) (by kernel_rfl) (fun _ _ _ h => h) (Or.inl ⟨by rfl, ?_⟩) (by assumption) ?_
        rotate_left
        · ((intro w hSw; (try dsimp only at hSw); go_simp); (try with_reducible rfl))
        try simp only [Act.put, List.setIfInBounds_toArray, List.set_cons_zero, List.set_cons_succ]
        refine wpAnyH_take (i := 5) (oi := ⟨_, _, _, _, _, _⟩) (v := ?_) rfl (by kernel_rfl) (by kernel_rfl) (by kernel_rfl) (fun _ _ _ h => h) (Or.inl ⟨by rfl, ?_⟩) (by assumption) ?_
        rotate_left
        · ((intro w hSw; (try dsimp only at hSw); go_simp); (try with_reducible rfl))
        try simp only [Act.put, List.setIfInBounds_toArray, List.set_cons_zero, List.set_cons_succ]
        refine wpAnyH_take (i := 6) (oi := ⟨_, _, _, _, _, _⟩) (v := ?_) rfl (by kernel_rfl) (by kernel_rfl) (by kernel_rfl) (fun _ _ _ h => h) (Or.inl ⟨by rfl, ?_⟩) (by assumption) ?_
        rotate_left
        · ((intro w hSw; (try dsimp only at hSw); go_simp); (try with_reducible rfl))
        try simp only [Act.put, List.setIfInBounds_toArray, List.set_cons_zero, List.set_cons_succ]
        refine wpAnyH_ready (rs := [7, 11]) (by kernel_rfl) (by simp) ?_
        refine AllReadyH.cons (o := ⟨_, _, _, _, _, _⟩) rfl (fun K hK => ?_) (AllReadyH.cons (o := ⟨_, _, _, _, _, _⟩) rfl (fun K hK => ?_) AllReadyH.nil)
        · refine (if_pos (show Region.wanted _ _ = true by kernel_rfl)).mpr ?_
          refine end_call 6 [.tmp 19, .tmp 25] #[37, 3] rfl run_sReadTree [.agg #[vp, (.slice (some ⟨b, off, none⟩) S.length cap)], .int .i64 (vOf S j)] rfl (HC.out wr.drew SL.out) ?_
          rintro e w5 ⟨⟨x, h5, h6⟩, b5⟩
          subst h5
          obtain ⟨xl, xp, xc, xk, xb⟩ := x
          obtain ⟨⟨y1, k1, r1, hy1⟩, ⟨y2, k2, r2, hy2⟩, ⟨y3, k3, r3, hy3⟩, ⟨y4, k4, r4, hy4⟩, _⟩ := TreeD.slices h6
          simp only at hy1 hy2 hy3 hy4
          subst hy1 hy2 hy3 hy4
          have bb5 : Below wr.heap.size wr w5 := Below.and SL.out b5
          refine .inl ⟨_, rfl, ?_⟩
          refine hK.out _ _ (KEEP.out _ bb5) (fun hH2 => ?_)
          clear hK K hH
          have hH := hH2
          clear hH2
          try simp only [Act.put, List.setIfInBounds_toArray, List.set_cons_zero, List.set_cons_succ]
          refine wpAnyH_take (i := 8) (oi := ⟨_, _, _, _, _, _⟩) (v := ?_) rfl (by kernel_rfl) (by kernel_rfl) (by kernel_rfl) (fun _ _ _ h => h) (Or.inl ⟨by rfl, ?_⟩) (by assumption) ?_
          rotate_left
          · ((intro w hSw; (try dsimp only at hSw); go_simp); (try with_reducible rfl))
          try simp only [Act.put, List.setIfInBounds_toArray, List.set_cons_zero, List.set_cons_succ]
          refine wpAnyH_take (i := 9) (oi := ⟨_, _, _, _, _, _⟩) (v := ?_) rfl (by kernel_rfl) (by kernel_rfl) (by kernel_rfl) (fun _ _ _ h => h) (Or.inl ⟨by rfl, ?_⟩) (by assumption) ?_
          rotate_left
          · ((intro w hSw; (try dsimp only at hSw); go_simp); (try with_reducible rfl))
          try simp only [Act.put, List.setIfInBounds_toArray, List.set_cons_zero, List.set_cons_succ]
          refine wpAnyH_take (i := 10) (oi := ⟨_, _, _, _, _, _⟩) (v := ?_) rfl (by kernel_rfl) (by kernel_rfl) (by kernel_rfl) (fun _ _ _ h => h) (Or.inl ⟨by rfl, ?_⟩) (by assumption) ?_
          rotate_left
          · ((intro w hSw; (try dsimp only at hSw); go_simp); (try with_reducible rfl))
          try simp only [Act.put, List.setIfInBounds_toArray, List.set_cons_zero, List.set_cons_succ]
          refine wpAnyH_ready (rs := [11]) (by kernel_rfl) (by simp) ?_
          refine AllReadyH.cons (o := ⟨_, _, _, _, _, _⟩) rfl (fun K hK => ?_) AllReadyH.nil
          go_simp
          refine hK.out _ _ (KEEP.out _ (Below.and bb5 (bel_new _ _))) (fun hH2 => ?_)
          clear hK K hH
          have hH := hH2
          clear hH2
          try simp only [Act.put, List.setIfInBounds_toArray, List.set_cons_zero, List.set_cons_succ]
          refine wpAnyH_ready (rs := [12]) (by kernel_rfl) (by simp) ?_
          refine AllReadyH.cons (o := ⟨_, _, _, _, _, _⟩) rfl (fun K hK => ?_) AllReadyH.nil
          go_simp
          refine hK.out _ _ (KEEP.out _ (Below.and bb5 (bel_new _ _))) (fun hH2 => ?_)
          clear hK K hH
          have hH := hH2
          clear hH2
          try simp only [Act.put, List.setIfInBounds_toArray, List.set_cons_zero, List.set_cons_succ]
          refine wpAnyH_take (i := 13) (oi := ⟨_, _, _, _, _, _⟩) (v := ?_) rfl (by kernel_rfl) (by kernel_rfl) (by kernel_rfl) (fun _ _ _ h => h) (Or.inl ⟨by rfl, ?_⟩) (by assumption) ?_
          rotate_left
          · ((intro w hSw; (try dsimp only at hSw); go_simp); (try with_reducible rfl))
          try simp only [Act.put, List.setIfInBounds_toArray, List.set_cons_zero, List.set_cons_succ]
          refine wpAnyH_done (by kernel_rfl) ?_ _
          clear hH
          have bb6 : Below wr.heap.size wr (w5.alloc (.cells #[.bool xl, .slice y1 k1 r1, .slice y2 k2 r2, .slice y3 k3 r3, .slice y4 k4 r4] 32)) := Below.and bb5 (bel_new _ _)
          have Q6 : (w5.alloc (.cells #[.bool xl, .slice y1 k1 r1, .slice y2 k2 r2, .slice y3 k3 r3, .slice y4 k4 r4] 32)).heap[w5.heap.size]? = some (.cells #[.bool xl, .slice y1 k1 r1, .slice y2 k2 r2, .slice y3 k3 r3, .slice y4 k4 r4] 32 (0, 0)) := heap_alloc_new _ _
          have hq : wr.heap.size ≤ w5.heap.size := bb5.size
          have t6 := II.out.1.below bb6
          have N6 := II.out.2.1.chg (Chg.of_below (F := fun _ => False) bb6) id
          have R6 := II.out.2.2.1.chg (Chg.of_below (F := fun _ => False) bb6) id
          have D6 := II.out.2.2.2.1.below bb6
          have L6 := Below.and II.out.2.2.2.2 bb6
          have z6 : wr.heap.size ≤ (w5.alloc (.cells #[.bool xl, .slice y1 k1 r1, .slice y2 k2 r2, .slice y3 k3 r3, .slice y4 k4 r4] 32)).heap.size := bb6.size
          have e0 := (bb6.cell (by show b < wr.heap.size; omega)).trans d0
          have e1 := (bb6.cell (by show b < wr.heap.size; omega)).trans d1
          have n6 : TreeD 7 (w5.alloc (.cells #[.bool xl, .slice y1 k1 r1, .slice y2 k2 r2, .slice y3 k3 r3, .slice y4 k4 r4] 32)) _ (TV.mk xl (.slice y1 k1 r1) (.slice y2 k2 r2) (.slice y3 k3 r3) (.slice y4 k4 r4)) T := h6.below (bel_new _ _)
          have n6 := n6.mono (G := Zone wr.heap.size (w5.alloc (.cells #[.bool xl, .slice y1 k1 r1, .slice y2 k2 r2, .slice y3 k3 r3, .slice y4 k4 r4] 32)).heap.size) (fun g hg => ⟨by have := hg.1; simp at this; omega, by have := hg.2; simp; omega⟩)
          have Q7 : BoxIs (w5.alloc (.cells #[.bool xl, .slice y1 k1 r1, .slice y2 k2 r2, .slice y3 k3 r3, .slice y4 k4 r4] 32)) w5.heap.size (.bool xl) (.slice y1 k1 r1) (.slice y2 k2 r2) (.slice y3 k3 r3) (.slice y4 k4 r4) := Q6
          clear Q6
          generalize (w5.alloc (.cells #[.bool xl, .slice y1 k1 r1, .slice y2 k2 r2, .slice y3 k3 r3, .slice y4 k4 r4] 32)) = W6 at *
          clear c0 c1
          obtain ⟨c0, c1, _⟩ := D6.cells
          obtain ⟨o0, o1, o2, o3, o4⟩ := Q7.cell
          by_cases hv : (openSt P S j).2 < kOf S j
          · have HS : Hid (openSt P S (j + 1) = (some T, kOf S j)) := openSt_new hg hv
            obtain ⟨z0, z1, z2, z3, z4⟩ := N6.cell
            have zf := N6.live
            have g7c := set5_chg W6 (w.heap.size + 1 + 1) (.bool xl) (.slice y1 k1 r1) (.slice y2 k2 r2) (.slice y3 k3 r3) (.slice y4 k4 r4)
            have n7 : BoxIs (set5 W6 (w.heap.size + 1 + 1) (.bool xl) (.slice y1 k1 r1) (.slice y2 k2 r2) (.slice y3 k3 r3) (.slice y4 k4 r4)) (w.heap.size + 2) (.bool xl) (.slice y1 k1 r1) (.slice y2 k2 r2) (.slice y3 k3 r3) (.slice y4 k4 r4) := N6.set (.bool xl) (.slice y1 k1 r1) (.slice y2 k2 r2) (.slice y3 k3 r3) (.slice y4 k4 r4)
            have z7 : (set5 W6 (w.heap.size + 1 + 1) (.bool xl) (.slice y1 k1 r1) (.slice y2 k2 r2) (.slice y3 k3 r3) (.slice y4 k4 r4)).heap.size = W6.heap.size := by simp [set5]
            have r7 := R6.chg g7c (by omega)
            have d7 := D6.chg g7c (by omega)
            have l7 := L6.trans (g7c.below (fun g _ hg => by omega) L6.size)
            have t7 := (n6.chg g7c (fun g hg e => by have := hg.1; omega)).mono (G := Zone (w.heap.size + 3) (set5 W6 (w.heap.size + 1 + 1) (.bool xl) (.slice y1 k1 r1) (.slice y2 k2 r2) (.slice y3 k3 r3) (.slice y4 k4 r4)).heap.size) (fun g hg => ⟨by have := hg.1; omega, by have := hg.2; omega⟩)
            have z8 : wr.heap.size ≤ (set5 W6 (w.heap.size + 1 + 1) (.bool xl) (.slice y1 k1 r1) (.slice y2 k2 r2) (.slice y3 k3 r3) (.slice y4 k4 r4)).heap.size := by omega
            have FIN : Hid _ := And.intro t7 (And.intro n7 (And.intro r7 (And.intro d7 (And.intro l7 z8))))
            unfold set5 at FIN
            clear t6 n6 N6 R6 D6 L6 Q7 bb6 bb5 KEEP HC II d0 d1 g7c n7 r7 d7 l7 t7 z7 z8
            go_wp2
            go_roundw
            case rel => exact ⟨j + 1, (TV.mk xl (.slice y1 k1 r1) (.slice y2 k2 r2) (.slice y3 k3 r3) (.slice y4 k4 r4)), by omega, by go_num, by rw [HS.out], xl, y1, y2, y3, y4, k1, k2, k3, k4, r1, r2, r3, r4, rfl, by rw [HS.out]; exact FIN.out.1, FIN.out.2.1, FIN.out.2.2.1, FIN.out.2.2.2.1, FIN.out.2.2.2.2.1, by have := FIN.out.2.2.2.2.2; omega⟩
            case measure => simp [intOf]; omega
          · have HS : Hid (openSt P S (j + 1) = openSt P S j) := openSt_old hv
            have t7 := t6.mono (G := Zone (w.heap.size + 3) W6.heap.size) (fun g hg => ⟨hg.1, by have := hg.2; omega⟩)
            have FIN : Hid _ := And.intro t7 (And.intro N6 (And.intro R6 (And.intro D6 (And.intro L6 z6))))
            clear t6 t7 n6 N6 R6 D6 L6 Q7 bb6 bb5 KEEP HC II d0 d1
            go_wp2
            go_roundw
            case rel => exact ⟨j + 1, (TV.mk al (.slice a1 a5 a9) (.slice a2 a6 aa) (.slice a3 a7 ab) (.slice a4 a8 ac)), by omega, by go_num, by rw [HS.out], al, a1, a2, a3, a4, a5, a6, a7, a8, a9, aa, ab, ac, rfl, by rw [HS.out]; exact FIN.out.1, FIN.out.2.1, FIN.out.2.2.1, FIN.out.2.2.2.1, FIN.out.2.2.2.2.1, by have := FIN.out.2.2.2.2.2; omega⟩
            case measure => simp [intOf]; omega
        · go_simp
          have SV : Hid (Below wr.heap.size wr (wr.drew.alloc (.cells #[.bool false, .slice none 0 0, .slice none 0 0, .slice none 0 0, .slice none 0 0] 32))) := Below.and SL.out (bel_new _ _)
          have NV : Hid (BoxIs (wr.drew.alloc (.cells #[.bool false, .slice none 0 0, .slice none 0 0, .slice none 0 0, .slice none 0 0] 32)) wr.heap.size (.bool false) (.slice none 0 0) (.slice none 0 0) (.slice none 0 0) (.slice none 0 0)) := heap_alloc_new wr.drew (.cells #[.bool false, .slice none 0 0, .slice none 0 0, .slice none 0 0, .slice none 0 0] 32)
          refine hK.out _ _ (KEEP.out _ SV.out) (fun hH2 => ?_)
          clear hK K hH
          have hH := hH2
          clear hH2
          try simp only [Act.put, List.setIfInBounds_toArray, List.set_cons_zero, List.set_cons_succ]
          refine wpAnyH_ready (rs := [7]) (by kernel_rfl) (by simp) ?_
          refine AllReadyH.cons (o := ⟨_, _, _, _, _, _⟩) rfl (fun K hK => ?_) AllReadyH.nil
          refine (if_pos (show Region.wanted _ _ = true by kernel_rfl)).mpr ?_
          refine end_call 6 [.tmp 19, .tmp 25] #[37, 3] rfl run_sReadTree [.agg #[vp, (.slice (some ⟨b, off, none⟩) S.length cap)], .int .i64 (vOf S j)] rfl (HC.out _ SV.out) ?_
          rintro e w5 ⟨⟨x, h5, h6⟩, b5⟩
          subst h5
          obtain ⟨xl, xp, xc, xk, xb⟩ := x
          obtain ⟨⟨y1, k1, r1, hy1⟩, ⟨y2, k2, r2, hy2⟩, ⟨y3, k3, r3, hy3⟩, ⟨y4, k4, r4, hy4⟩, _⟩ := TreeD.slices h6
          simp only at hy1 hy2 hy3 hy4
          subst hy1 hy2 hy3 hy4
          have bb5 : Below wr.heap.size wr w5 := Below.and SV.out b5
          have QV := NV.out.chg (Chg.of_below (F := fun _ => False) b5) id
          have gV := set5_chg w5 wr.heap.size (.bool xl) (.slice y1 k1 r1) (.slice y2 k2 r2) (.slice y3 k3 r3) (.slice y4 k4 r4)
          have bb6 : Below wr.heap.size wr (set5 w5 wr.heap.size (.bool xl) (.slice y1 k1 r1) (.slice y2 k2 r2) (.slice y3 k3 r3) (.slice y4 k4 r4)) := bb5.trans (gV.below (fun g _ hg => by omega) bb5.size)
          have Q6 : (set5 w5 wr.heap.size (.bool xl) (.slice y1 k1 r1) (.slice y2 k2 r2) (.slice y3 k3 r3) (.slice y4 k4 r4)).heap[wr.heap.size]? = some (.cells #[.bool xl, .slice y1 k1 r1, .slice y2 k2 r2, .slice y3 k3 r3, .slice y4 k4 r4] 32 (0, 0)) := QV.set (.bool xl) (.slice y1 k1 r1) (.slice y2 k2 r2) (.slice y3 k3 r3) (.slice y4 k4 r4)
          have zV : (set5 w5 wr.heap.size (.bool xl) (.slice y1 k1 r1) (.slice y2 k2 r2) (.slice y3 k3 r3) (.slice y4 k4 r4)).heap.size = w5.heap.size := by simp [set5]
          obtain ⟨cz0, cz1, cz2, cz3, cz4⟩ := QV.cell
          have czf := QV.live
          unfold set5 at bb6 Q6 zV gV
          have hq : wr.heap.size ≤ wr.heap.size := Nat.le_refl _
          refine .inl ⟨_, rfl, ?_⟩
          refine hK.out _ _ (KEEP.out _ bb5) (fun hH2 => ?_)
          clear hK K hH
          have hH := hH2
          clear hH2
          try simp only [Act.put, List.setIfInBounds_toArray, List.set_cons_zero, List.set_cons_succ]
          refine wpAnyH_take (i := 8) (oi := ⟨_, _, _, _, _, _⟩) (v := ?_) rfl (by kernel_rfl) (by kernel_rfl) (by kernel_rfl) (fun _ _ _ h => h) (Or.inl ⟨by rfl, ?_⟩) (by assumption) ?_
          rotate_left
          · ((intro w hSw; (try dsimp only at hSw); go_simp); (try with_reducible rfl))
          try simp only [Act.put, List.setIfInBounds_toArray, List.set_cons_zero, List.set_cons_succ]
          refine wpAnyH_take (i := 9) (oi := ⟨_, _, _, _, _, _⟩) (v := ?_) rfl (by kernel_rfl) (by kernel_rfl) (by kernel_rfl) (fun _ _ _ h => h) (Or.inl ⟨by rfl, ?_⟩) (by assumption) ?_
          rotate_left
          · ((intro w hSw; (try dsimp only at hSw); go_simp); (try with_reducible rfl))
          try simp only [Act.put, List.setIfInBounds_toArray, List.set_cons_zero, List.set_cons_succ]
          refine wpAnyH_take (i := 10) (oi := ⟨_, _, _, _, _, _⟩) (v := ?_) rfl (by kernel_rfl) (by kernel_rfl) (by kernel_rfl) (fun _ _ _ h => h) (Or.inl ⟨by rfl, ?_⟩) (by assumption) ?_
          rotate_left
          · ((intro w hSw; (try dsimp only at hSw); go_simp); (try with_reducible rfl))
          try simp only [Act.put, List.setIfInBounds_toArray, List.set_cons_zero, List.set_cons_succ]
          refine wpAnyH_ready (rs := [12]) (by kernel_rfl) (by simp) ?_
          refine AllReadyH.cons (o := ⟨_, _, _, _, _, _⟩) rfl (fun K hK => ?_) AllReadyH.nil
          go_simp
          refine hK.out _ _ (KEEP.out _ bb6) (fun hH2 => ?_)
          clear hK K hH
          have hH := hH2
          clear hH2
          try simp only [Act.put, List.setIfInBounds_toArray, List.set_cons_zero, List.set_cons_succ]
          refine wpAnyH_take (i := 13) (oi := ⟨_, _, _, _, _, _⟩) (v := ?_) rfl (by kernel_rfl) (by kernel_rfl) (by kernel_rfl) (fun _ _ _ h => h) (Or.inl ⟨by rfl, ?_⟩) (by assumption) ?_
          rotate_left
          · ((intro w hSw; (try dsimp only at hSw); go_simp); (try with_reducible rfl))
          try simp only [Act.put, List.setIfInBounds_toArray, List.set_cons_zero, List.set_cons_succ]
          refine wpAnyH_done (by kernel_rfl) ?_ _
          clear hH cz0 cz1 cz2 cz3 cz4 czf
          have t6 := II.out.1.below bb6
          have N6 := II.out.2.1.chg (Chg.of_below (F := fun _ => False) bb6) id
          have R6 := II.out.2.2.1.chg (Chg.of_below (F := fun _ => False) bb6) id
          have D6 := II.out.2.2.2.1.below bb6
          have L6 := Below.and II.out.2.2.2.2 bb6
          have z6 : wr.heap.size ≤ (((((w5.setCell ⟨wr.heap.size, 0, none⟩ (.bool xl)).setCell ⟨wr.heap.size, 1, none⟩ (.slice y1 k1 r1)).setCell ⟨wr.heap.size, 2, none⟩ (.slice y2 k2 r2)).setCell ⟨wr.heap.size, 3, none⟩ (.slice y3 k3 r3)).setCell ⟨wr.heap.size, 4, none⟩ (.slice y4 k4 r4)).heap.size := bb6.size
          have e0 := (bb6.cell (by show b < wr.heap.size; omega)).trans d0
          have e1 := (bb6.cell (by show b < wr.heap.size; omega)).trans d1
          have n6 : TreeD 7 (((((w5.setCell ⟨wr.heap.size, 0, none⟩ (.bool xl)).setCell ⟨wr.heap.size, 1, none⟩ (.slice y1 k1 r1)).setCell ⟨wr.heap.size, 2, none⟩ (.slice y2 k2 r2)).setCell ⟨wr.heap.size, 3, none⟩ (.slice y3 k3 r3)).setCell ⟨wr.heap.size, 4, none⟩ (.slice y4 k4 r4)) _ (TV.mk xl (.slice y1 k1 r1) (.slice y2 k2 r2) (.slice y3 k3 r3) (.slice y4 k4 r4)) T := h6.chg gV (fun g hg e => by have := hg.1; simp at this; omega)
          have n6 := n6.mono (G := Zone wr.heap.size (((((w5.setCell ⟨wr.heap.size, 0, none⟩ (.bool xl)).setCell ⟨wr.heap.size, 1, none⟩ (.slice y1 k1 r1)).setCell ⟨wr.heap.size, 2, none⟩ (.slice y2 k2 r2)).setCell ⟨wr.heap.size, 3, none⟩ (.slice y3 k3 r3)).setCell ⟨wr.heap.size, 4, none⟩ (.slice y4 k4 r4)).heap.size) (fun g hg => ⟨by have := hg.1; simp at this; omega, by have := hg.2; simp; omega⟩)
          have Q7 : BoxIs (((((w5.setCell ⟨wr.heap.size, 0, none⟩ (.bool xl)).setCell ⟨wr.heap.size, 1, none⟩ (.slice y1 k1 r1)).setCell ⟨wr.heap.size, 2, none⟩ (.slice y2 k2 r2)).setCell ⟨wr.heap.size, 3, none⟩ (.slice y3 k3 r3)).setCell ⟨wr.heap.size, 4, none⟩ (.slice y4 k4 r4)) wr.heap.size (.bool xl) (.slice y1 k1 r1) (.slice y2 k2 r2) (.slice y3 k3 r3) (.slice y4 k4 r4) := Q6
          clear Q6
          generalize (((((w5.setCell ⟨wr.heap.size, 0, none⟩ (.bool xl)).setCell ⟨wr.heap.size, 1, none⟩ (.slice y1 k1 r1)).setCell ⟨wr.heap.size, 2, none⟩ (.slice y2 k2 r2)).setCell ⟨wr.heap.size, 3, none⟩ (.slice y3 k3 r3)).setCell ⟨wr.heap.size, 4, none⟩ (.slice y4 k4 r4)) = W6 at *
          clear c0 c1
          obtain ⟨c0, c1, _⟩ := D6.cells
          obtain ⟨o0, o1, o2, o3, o4⟩ := Q7.cell
          by_cases hv : (openSt P S j).2 < kOf S j
          · have HS : Hid (openSt P S (j + 1) = (some T, kOf S j)) := openSt_new hg hv
            obtain ⟨z0, z1, z2, z3, z4⟩ := N6.cell
            have zf := N6.live
            have g7c := set5_chg W6 (w.heap.size + 1 + 1) (.bool xl) (.slice y1 k1 r1) (.slice y2 k2 r2) (.slice y3 k3 r3) (.slice y4 k4 r4)
            have n7 : BoxIs (set5 W6 (w.heap.size + 1 + 1) (.bool xl) (.slice y1 k1 r1) (.slice y2 k2 r2) (.slice y3 k3 r3) (.slice y4 k4 r4)) (w.heap.size + 2) (.bool xl) (.slice y1 k1 r1) (.slice y2 k2 r2) (.slice y3 k3 r3) (.slice y4 k4 r4) := N6.set (.bool xl) (.slice y1 k1 r1) (.slice y2 k2 r2) (.slice y3 k3 r3) (.slice y4 k4 r4)
            have z7 : (set5 W6 (w.heap.size + 1 + 1) (.bool xl) (.slice y1 k1 r1) (.slice y2 k2 r2) (.slice y3 k3 r3) (.slice y4 k4 r4)).heap.size = W6.heap.size := by simp [set5]
            have r7 := R6.chg g7c (by omega)
            have d7 := D6.chg g7c (by omega)
            have l7 := L6.trans (g7c.below (fun g _ hg => by omega) L6.size)
            have t7 := (n6.chg g7c (fun g hg e => by have := hg.1; omega)).mono (G := Zone (w.heap.size + 3) (set5 W6 (w.heap.size + 1 + 1) (.bool xl) (.slice y1 k1 r1) (.slice y2 k2 r2) (.slice y3 k3 r3) (.slice y4 k4 r4)).heap.size) (fun g hg => ⟨by have := hg.1; omega, by have := hg.2; omega⟩)
            have z8 : wr.heap.size ≤ (set5 W6 (w.heap.size + 1 + 1) (.bool xl) (.slice y1 k1 r1) (.slice y2 k2 r2) (.slice y3 k3 r3) (.slice y4 k4 r4)).heap.size := by omega
            have FIN : Hid _ := And.intro t7 (And.intro n7 (And.intro r7 (And.intro d7 (And.intro l7 z8))))
            unfold set5 at FIN
            clear t6 n6 N6 R6 D6 L6 Q7 bb6 bb5 KEEP HC II d0 d1 g7c n7 r7 d7 l7 t7 z7 z8
            go_wp2
            go_roundw
            case rel => exact ⟨j + 1, (TV.mk xl (.slice y1 k1 r1) (.slice y2 k2 r2) (.slice y3 k3 r3) (.slice y4 k4 r4)), by omega, by go_num, by rw [HS.out], xl, y1, y2, y3, y4, k1, k2, k3, k4, r1, r2, r3, r4, rfl, by rw [HS.out]; exact FIN.out.1, FIN.out.2.1, FIN.out.2.2.1, FIN.out.2.2.2.1, FIN.out.2.2.2.2.1, by have := FIN.out.2.2.2.2.2; omega⟩
            case measure => simp [intOf]; omega
          · have HS : Hid (openSt P S (j + 1) = openSt P S j) := openSt_old hv
            have t7 := t6.mono (G := Zone (w.heap.size + 3) W6.heap.size) (fun g hg => ⟨hg.1, by have := hg.2; omega⟩)
            have FIN : Hid _ := And.intro t7 (And.intro N6 (And.intro R6 (And.intro D6 (And.intro L6 z6))))
            clear t6 t7 n6 N6 R6 D6 L6 Q7 bb6 bb5 KEEP HC II d0 d1
            go_wp2
            go_roundw
            case rel => exact ⟨j + 1, (TV.mk al (.slice a1 a5 a9) (.slice a2 a6 aa) (.slice a3 a7 ab) (.slice a4 a8 ac)), by omega, by go_num, by rw [HS.out], al, a1, a2, a3, a4, a5, a6, a7, a8, a9, aa, ab, ac, rfl, by rw [HS.out]; exact FIN.out.1, FIN.out.2.1, FIN.out.2.2.1, FIN.out.2.2.2.1, FIN.out.2.2.2.2.1, by have := FIN.out.2.2.2.2.2; omega⟩
            case measure => simp [intOf]; omega
    · have hjl : j = S.length := by omega
      subst hjl
      clear c0 c1
      obtain ⟨c0, c1, _⟩ := bD.cells
      obtain ⟨k0, k1, k2, k3, k4⟩ := bN.cell
      obtain ⟨z0, z1, z2, z3, z4⟩ := bR.cell
      have zf := bR.live
      have g7c := set5_chg wr (w.heap.size + 1) (.bool al) (.slice a1 a5 a9) (.slice a2 a6 aa) (.slice a3 a7 ab) (.slice a4 a8 ac)
      have n7 := (bR.set (.bool al) (.slice a1 a5 a9) (.slice a2 a6 aa) (.slice a3 a7 ab) (.slice a4 a8 ac)).cell
      have z7 : (set5 wr (w.heap.size + 1) (.bool al) (.slice a1 a5 a9) (.slice a2 a6 aa) (.slice a3 a7 ab) (.slice a4 a8 ac)).heap.size = wr.heap.size := by simp [set5]
      have l7 := bel.trans (g7c.below (fun g _ hg => by omega) bel.size)
      have t7 := (tA.chg g7c (fun g hg e => by have := hg.1; omega)).mono (G := Zone w.heap.size (set5 wr (w.heap.size + 1) (.bool al) (.slice a1 a5 a9) (.slice a2 a6 aa) (.slice a3 a7 ab) (.slice a4 a8 ac)).heap.size) (fun g hg => ⟨by have := hg.1; omega, by have := hg.2; omega⟩)
      unfold set5 at n7 l7 t7
      obtain ⟨v0, v1, v2, v3, v4⟩ := n7
      have FIN : Hid _ := And.intro t7 l7
      clear g7c z7 l7 t7 tA bN bR bD bel HI
      go_wp2
      simp [bodyPost, results, Tryd.results14, go_sem, v0, v1, v2, v3, v4]
      exact ⟨⟨(TV.mk al (.slice a1 a5 a9) (.slice a2 a6 aa) (.slice a3 a7 ab) (.slice a4 a8 ac)), by simp, FIN.out.1⟩, FIN.out.2⟩

end Go.Proofs.YtckphbmlmjlipaaDoor
