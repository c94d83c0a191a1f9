/-
  The program's Do.
-/
import Derived.Test.YtmpngehhojlmmaaDskG
import Derived.Deep.DeepCutAuto
namespace Go.Proofs.Ytmpngehhojlmmaa
open Go.RowKit

theorem wA_bound {l : List Wr} (h : ∀ x ∈ l, -9223372036854775808 ≤ x.1 ∧ x.1 ≤ 9223372036854775807) {k : Nat} (hk : k < l.length) : -9223372036854775808 ≤ wA l k ∧ wA l k ≤ 9223372036854775807 := by
  have := h l[k] (by simp)
  simpa [wA, List.getD, hk] using this

theorem DiskOwn.ne {w : World} {base : Nat} {v : Value} {P : PL} {S : SL} (h : DiskOwn w base v P S) {B : Nat} {c : Array Value} (hB : w.heap[B]? = some (.cells c 27)) {g : Nat} (hg : dBlk v g) : g ≠ B := by
  obtain ⟨vp, vs, rfl, h1, h2⟩ := h
  obtain ⟨vp', vs', e, hg⟩ := hg
  simp at e
  obtain ⟨rfl, rfl⟩ := e
  rintro rfl
  rcases hg with hg | hg
  · obtain ⟨_, c1, e1⟩ := owns_lt h1 hg
    rw [e1] at hB; simp at hB
  · obtain ⟨_, c1, e1⟩ := owns_lt h2 hg
    rw [e1] at hB; simp at hB

theorem own_ne {w : World} {base e size n : Nat} {v : Value} {xs : List Value} (h : w.ownsRow base e size v n xs) {B : Nat} {c : Array Value} {t : Nat} (hB : w.heap[B]? = some (.cells c t)) (ht : t ≠ e) {g : Nat} (hg : v.ownBlock = some g) : ¬ g = B := by
  rintro rfl
  obtain ⟨_, c1, e1⟩ := owns_lt h hg
  rw [e1] at hB
  simp at hB
  exact ht hB.2.symm
/-- what the first statement leaves: the struct of the two copies in a block B -/
def Laid (w : World) (P : PL) (S : SL) (s5 : Value) (wx : World) : Prop := ∃ (B : Nat) (v1 v2 : Value), s5 = .pointer (some ⟨B, 0, none⟩) ∧ wx.heap[B]? = some (.cells #[v1, v2] 27) ∧ wx.heap[w.heap.size + 1]? = some (.cells #[.slice none 0 0, .slice none 0 0] 27) ∧ w.heap.size + 1 < B ∧
      DiskOwn wx w.heap.size (.agg #[v1, v2]) P S ∧ Below w.heap.size w wx
theorem laid_new {w w2 : World} {A : Obj} {P : PL} {S : SL} {v1 v2 : Value} (G : Gd w A (.cells #[.slice none 0 0, .slice none 0 0] 27) w2) (o1 : w2.ownsRow w.heap.size 9 1 v1 P.length (flatS P)) (o2 : w2.ownsRow w.heap.size 33 2 v2 S.length (flatP S)) :
    Laid w P S (.pointer (some ⟨w2.heap.size, 0, none⟩)) (w2.alloc (.cells #[v1, v2] 27)) :=
  ⟨w2.heap.size, v1, v2, rfl, heap_alloc_new _ _, (G.al _).2.2.2, G.2.1, ⟨v1, v2, rfl, owns_below o1 (bel_al (Below.refl _ _) _), owns_below o2 (bel_al (Below.refl _ _) _)⟩, (G.al _).1⟩
theorem laid_set {w w2 : World} {A : Obj} {P : PL} {S : SL} {v1 v2 : Value} {B : Nat} (G : Gd w A (.cells #[.slice none 0 0, .slice none 0 0] 27) w2) (o1 : w2.ownsRow w.heap.size 9 1 v1 P.length (flatS P)) (o2 : w2.ownsRow w.heap.size 33 2 v2 S.length (flatP S))
    (hB : w2.heap[B]? = some (.cells #[.slice none 0 0, .slice none 0 0] 27)) (hlt : w.heap.size + 1 < B) :
    Laid w P S (.pointer (some ⟨B, 0, none⟩)) ((w2.setCell ⟨B, 0, none⟩ v1).setCell ⟨B, 1, none⟩ v2) := by
  have ch : Chg (fun g => g = B) w2 ((w2.setCell ⟨B, 0, none⟩ v1).setCell ⟨B, 1, none⟩ v2) := ((Chg.refl (fun g => g = B) _).setAt B 0 rfl v1).setAt B 1 rfl v2
  refine ⟨B, v1, v2, rfl, ?_, ?_, hlt, ⟨v1, v2, rfl, ?_, ?_⟩, ?_⟩
  · exact heap_setCell_same _ B 1 _ _ v2 (heap_setCell_same w2 B 0 _ _ v1 hB)
  · exact (ch.block _ G.2.1 (by omega)).trans G.2.2.2
  · exact owns_chg o1 ch (fun g hg => own_ne o1 hB (by decide) hg)
  · exact owns_chg o2 ch (fun g hg => own_ne o2 hB (by decide) hg)
  · exact (G.1.setCell (p := ⟨B, 0, none⟩) (by show w.heap.size ≤ B; omega) v1).setCell (p := ⟨B, 1, none⟩) (by show w.heap.size ≤ B; omega) v2

set_option maxRecDepth 100000 in
set_option maxHeartbeats 8000000 in
theorem implDo_any (v : Value) (P : PL) (S : SL) (vl : Value) (l : List Wr) (w : World) (hd : DiskRow w v P S) (hl : Row w vl l.length (flatW l)) (hP : P.length ≤ 1048576) (hS : S.length ≤ 1048576)
    (hA : ∀ x ∈ l, -9223372036854775808 ≤ x.1 ∧ x.1 ≤ 9223372036854775807) :
    Calls Try.prog 8 #[v, vl] w fun e w' => ∃ v', e = .returned v' ∧ DiskOwn w' w.heap.size v' (doP P l) (doS S l) ∧ Below w.heap.size w w' := by
  obtain ⟨vp, vs, rfl, r1, r2⟩ := hd
  obtain ⟨a, b, off, cap, rfl, hcap, hmax, ha, hk⟩ := hl.writs
  unfold maxLen at hmax
  have R1 : Hid (∀ u, Below w.heap.size w u → Row u vp P.length (flatS P)) := fun u hu => r1.below hu
  have R2 : Hid (∀ u, Below w.heap.size w u → Row u vs S.length (flatP S)) := fun u hu => r2.below hu
  have HK : Hid _ := And.intro ha hk
  clear hl r1 r2 ha hk
  go_enter Try.func8, Try.ntmps8
  go_wp2_with fail
  go_cut [5] (fun s5 wx => Hid (Laid w P S s5 wx))
  case first =>
    have C1 : Hid (∀ u, Gd w (.cells #[vp, vs] 27) (.cells #[.slice none 0 0, .slice none 0 0] 27) u → Calls Try.prog 26 #[vp] u fun e w' => ∃ v', e = .returned v' ∧ w'.ownsRow w.heap.size 9 1 v' P.length (flatS P) ∧ Gd w (.cells #[vp, vs] 27) (.cells #[.slice none 0 0, .slice none 0 0] 27) w' ∧ w'.cell? ⟨w.heap.size, 1, none⟩ = some vs ∧ Below u.heap.size u w') :=
      fun u hu => (cloneS_any vp P u (R1.out u hu.1) (by omega)).mono (fun e w' ⟨v', h1, h2, h3⟩ => ⟨v', h1, owns_mono h2 hu.1.size, hu.below h3, cell_of_cells (hu.below h3).2.2.1, h3⟩)
    have C2 : Hid (∀ u w1 v1, Below w1.heap.size w1 u → Gd w (.cells #[vp, vs] 27) (.cells #[.slice none 0 0, .slice none 0 0] 27) w1 → w1.ownsRow w.heap.size 9 1 v1 P.length (flatS P) → Calls Try.prog 27 #[vs] u fun e w' => ∃ v', e = .returned v' ∧ w'.ownsRow w.heap.size 33 2 v' S.length (flatP S) ∧ w'.ownsRow w.heap.size 9 1 v1 P.length (flatS P) ∧ Gd w (.cells #[vp, vs] 27) (.cells #[.slice none 0 0, .slice none 0 0] 27) w' ∧ Below u.heap.size u w') :=
      fun u w1 v1 hb hg ho => (cloneP_any vs S u (R2.out u (hg.below hb).1) (by omega)).mono (fun e w' ⟨v', h1, h2, h3⟩ => ⟨v', h1, owns_mono h2 (hg.below hb).1.size, owns_below ho (Below.and hb h3), (hg.below hb).below h3, h3⟩)
    have GS := Gd.start w (.cells #[vp, vs] 27) (.cells #[.slice none 0 0, .slice none 0 0] 27)
    clear HK R1 R2
    go_region_with (first | (go_at_call 26; refine (C1.out _ (by (repeat (first | exact GS | apply Gd.al | apply Gd.drew)))).mono ?_; rintro e w1 ⟨v1, rfl, o1, G1, c1, b1⟩; have l0 := G1.2.1; have l1 : w.heap.size < w1.heap.size := (by omega); have l2 : ¬ w.heap.size = w1.heap.size := (by omega); have l3 : ¬ w1.heap.size = w.heap.size := (by omega); (first | (have N1 : w1.heap[w.heap.size + 1 + 1]? = some (.cells #[.slice none 0 0, .slice none 0 0] 27) := (b1.block _ (by first | simp | (show w.heap.size + 1 + 1 < ((w.alloc _).alloc _ |>.alloc _).heap.size; simp))).trans (al3 w (.cells #[vp, vs] 27) (.cells #[.slice none 0 0, .slice none 0 0] 27) (.cells #[.slice none 0 0, .slice none 0 0] 27)).2.2) | skip); obtain ⟨ad1, q1, rfl⟩ := owns_val o1) | (go_at_call 27; refine (C2.out _ w1 _ (by (repeat (first | exact Below.refl _ _ | apply bel_al | apply Below.drew))) G1 o1).mono ?_; rintro e w2 ⟨v2, rfl, o2, o12, G2, b2⟩; (first | (have N2 : w2.heap[w1.heap.size]? = some (.cells #[.slice none 0 0, .slice none 0 0] 27) := (b2.block _ (by simp)).trans (heap_alloc_new w1 _); have e0 : w2.cell? ⟨w1.heap.size, 0, none⟩ = some (.slice none 0 0) := cell_of_cells N2; have e1 : w2.cell? ⟨w1.heap.size, 1, none⟩ = some (.slice none 0 0) := cell_of_cells N2; have f0 : w2.frozen? ⟨w1.heap.size, 0, none⟩ = false := frozen_of_cells N2; have f1 : w2.frozen? ⟨w1.heap.size, 1, none⟩ = false := frozen_of_cells N2) | (have N2 : w2.heap[w.heap.size + 1 + 1]? = some (.cells #[.slice none 0 0, .slice none 0 0] 27) := (b2.block _ (by have := b1.size; simp at this; omega)).trans N1; have e0 : w2.cell? ⟨w.heap.size + 1 + 1, 0, none⟩ = some (.slice none 0 0) := cell_of_cells N2; have e1 : w2.cell? ⟨w.heap.size + 1 + 1, 1, none⟩ = some (.slice none 0 0) := cell_of_cells N2; have f0 : w2.frozen? ⟨w.heap.size + 1 + 1, 0, none⟩ = false := frozen_of_cells N2; have f1 : w2.frozen? ⟨w.heap.size + 1 + 1, 1, none⟩ = false := frozen_of_cells N2) | skip); obtain ⟨ad2, q2, rfl⟩ := owns_val o2))
    all_goals
      go_wp2_with fail
      go_meet
      case rel => first | exact laid_new G2 o12 o2 | exact laid_set G2 o12 o2 N2 (by omega)
  case rest =>
    obtain ⟨B, v1, v2, rfl, hB, hR, hlt, hD, hbel⟩ := hcut.out
    have shp : ∃ a1 q1 a2 q2, v1 = .slice a1 P.length q1 ∧ v2 = .slice a2 S.length q2 := by
      obtain ⟨x, y, e, h1, h2⟩ := hD
      simp at e
      obtain ⟨rfl, rfl⟩ := e
      obtain ⟨a1, q1, e1⟩ := owns_val h1
      obtain ⟨a2, q2, e2⟩ := owns_val h2
      exact ⟨a1, q1, a2, q2, e1, e2⟩
    obtain ⟨a1, q1, a2, q2, rfl, rfl⟩ := shp
    clear hcut
    have I0 : Hid _ := And.intro hB (And.intro hR (And.intro hD hbel))
    clear hB hR hD hbel
    go_wp2
    go_loopw [17] (fun i wr => ∃ k : Nat, k ≤ l.length ∧ i = .int .i64 k ∧ Hid (wr.heap[B]? = some (.cells #[.slice a1 P.length q1, .slice a2 S.length q2] 27) ∧ wr.heap[w.heap.size + 1]? = some (.cells #[.slice none 0 0, .slice none 0 0] 27) ∧ DiskOwn wr w.heap.size (.agg #[.slice a1 P.length q1, .slice a2 S.length q2]) (doP P (l.take k)) (doS S (l.take k)) ∧ Below w.heap.size w wr))
      (fun i _ => l.length - (intOf i).toNat)
    case atStart => exact ⟨0, Nat.zero_le _, rfl, I0.out⟩
    case round =>
      obtain ⟨k, hkl, rfl, hI⟩ := hrel
      obtain ⟨hB, hR, hD, hbel⟩ := hI.out
      have m0 : wr.cell? ⟨B, 0, none⟩ = some (.slice a1 P.length q1) := cell_of_cells hB
      have m1 : wr.cell? ⟨B, 1, none⟩ = some (.slice a2 S.length q2) := cell_of_cells hB
      have hBl : B < wr.heap.size := (Array.getElem?_eq_some_iff.1 hB).1
      have hBn : ¬ B = wr.heap.size := by omega
      have hBm : ¬ wr.heap.size = B := by omega
      clear hI I0
      by_cases hlt' : k < l.length
      · have hal := HK.out.1 (by omega)
        subst hal
        obtain ⟨c0, c1, c2, c3⟩ := HK.out.2 k hlt'
        have bb : b < wr.heap.size := Nat.lt_of_lt_of_le (cell_lt c0) hbel.size
        have d0 := (hbel.cell (by exact cell_lt c0)).trans c0
        have d1 := (hbel.cell (by exact cell_lt c1)).trans c1
        have d2 := (hbel.cell (by exact cell_lt c2)).trans c2
        have d3 := (hbel.cell (by exact cell_lt c3)).trans c3
        have hab := wA_bound hA hlt'
        have NP := doP_next l P k hlt'
        have NS := doS_next l S k hlt'
        have J : Hid _ := And.intro hB (And.intro hR (And.intro hD (And.intro hbel (And.intro NP NS))))
        clear c0 c1 c2 c3 hB hR hD hbel NP NS
        go_wp2_with fail
        have hDa := J.out.2.2.1.below (bel_al (w := wr) (Below.refl _ _) (.cells #[.int .i64 (wA l k), .string (wT l k), .int .i64 (wV l k), .int .i64 (wR l k)] 35))
        refine (writeInto_any w.heap.size _ _ _ (wA l k) (wT l k) (wV l k) (wR l k) _ hDa hab.1 hab.2).mono ?_
        rintro e w1 ⟨rfl, D1, ch⟩
        obtain ⟨hB, hR, hD, hbel, NP, NS⟩ := J.out
        have bA : Below w.heap.size w (wr.alloc (.cells #[.int .i64 (wA l k), .string (wT l k), .int .i64 (wV l k), .int .i64 (wR l k)] 35)) := bel_al hbel _
        have hB1 := ((bel_al (w := wr) (Below.refl _ _) (.cells #[.int .i64 (wA l k), .string (wT l k), .int .i64 (wV l k), .int .i64 (wR l k)] 35)).block _ hBl).trans hB
        have hR1 := ((bel_al (w := wr) (Below.refl _ _) (.cells #[.int .i64 (wA l k), .string (wT l k), .int .i64 (wV l k), .int .i64 (wR l k)] 35)).block _ (by omega)).trans hR
        have hB2 := row_chg hB1 ch (fun h => hDa.ne hB1 h rfl)
        have hR2 := row_chg hR1 ch (fun h => hDa.ne hR1 h rfl)
        have b1 : Below w.heap.size w w1 := bA.trans (ch.below (fun g _ hg => (hDa.lt hg).1) bA.size)
        rw [← NP, ← NS] at D1
        have F : Hid _ := And.intro hB2 (And.intro hR2 (And.intro D1 b1))
        clear hB hR hD hbel NP NS bA hB1 hR1 hB2 hR2 b1 D1 ch hDa J d0 d1 d2 d3 m0 m1
        go_wp2
        go_roundw
        case rel => exact ⟨k + 1, by omega, by go_num, F.out⟩
        case measure => simp [intOf]; omega
      · have hkk : k = l.length := by omega
        subst hkk
        rw [List.take_length] at hD
        have n0 : wr.cell? ⟨w.heap.size + 1, 0, none⟩ = some (.slice none 0 0) := cell_of_cells hR
        have n1 : wr.cell? ⟨w.heap.size + 1, 1, none⟩ = some (.slice none 0 0) := cell_of_cells hR
        have f0 : wr.frozen? ⟨w.heap.size + 1, 0, none⟩ = false := frozen_of_cells hR
        have f1 : wr.frozen? ⟨w.heap.size + 1, 1, none⟩ = false := frozen_of_cells hR
        have ch : Chg (fun g => g = w.heap.size + 1) wr ((wr.setCell ⟨w.heap.size + 1, 0, none⟩ (.slice a1 P.length q1)).setCell ⟨w.heap.size + 1, 1, none⟩ (.slice a2 S.length q2)) := ((Chg.refl (fun g => g = w.heap.size + 1) _).setAt (w.heap.size + 1) 0 rfl _).setAt (w.heap.size + 1) 1 rfl _
        have F : Hid (DiskOwn ((wr.setCell ⟨w.heap.size + 1, 0, none⟩ (.slice a1 P.length q1)).setCell ⟨w.heap.size + 1, 1, none⟩ (.slice a2 S.length q2)) w.heap.size (.agg #[.slice a1 P.length q1, .slice a2 S.length q2]) (doP P l) (doS S l) ∧ Below w.heap.size w ((wr.setCell ⟨w.heap.size + 1, 0, none⟩ (.slice a1 P.length q1)).setCell ⟨w.heap.size + 1, 1, none⟩ (.slice a2 S.length q2))) :=
          ⟨hD.chg ch (fun g hg => hD.ne hR hg), hbel.trans (ch.below (fun g _ hg => by omega) hbel.size)⟩
        clear hB hR hD hbel ch
        go_wp2
        refine bodyPost_ret (v := .agg #[.slice a1 P.length q1, .slice a2 S.length q2]) (by simp [results, Try.results8, go_sem, n0, n1]) rfl ⟨_, rfl, F.out⟩

end Go.Proofs.Ytmpngehhojlmmaa
