/-
  The model's drawing of a map and a message to it.
-/
import Derived.Test.YtlapcjbhhonagaaDrawE
import Derived.RegionTactic
import Derived.Deep.RegionHeld3
namespace Go.Proofs.Ytlapcjbhhonagaa
open Go.RowKit

/-- what stands ahead of the end: the map v1, the message at M, the result's place R -/
structure MDEnd (w : World) (v1 : Value) (l : PL) (M : Nat) (o k v : Int) (W : World) : Prop where
  bel : Below w.heap.size w W
  own : W.ownsRow (w.heap.size + 2) 75 2 v1 l.length (flatP l)
  lt : ∀ g, v1.ownBlock = some g → g < M
  hR : ∃ a b c, W.heap[w.heap.size]? = some (.cells #[a, b, c] 33 (0, 0))
  hM : W.heap[M]? = some (.cells #[.int .i64 o, .int .i64 k, .int .i64 v] 33 (0, 0))
  rM : w.heap.size + 1 < M
  cur : Cur W (w.heap.size + 1)

theorem MDEnd.fin {w : World} {v1 : Value} {l : PL} {M : Nat} {o k v : Int} {W : World} (h : MDEnd w v1 l M o k v W) :
    (Below w.heap.size w (((W.setCell ⟨w.heap.size, 0, none⟩ (.int .i64 o)).setCell ⟨w.heap.size, 1, none⟩ (.int .i64 k)).setCell ⟨w.heap.size, 2, none⟩ (.int .i64 v)) ∧
      (((W.setCell ⟨w.heap.size, 0, none⟩ (.int .i64 o)).setCell ⟨w.heap.size, 1, none⟩ (.int .i64 k)).setCell ⟨w.heap.size, 2, none⟩ (.int .i64 v)).ownsRow w.heap.size 75 2 v1 l.length (flatP l)) ∧
    ((((W.setCell ⟨w.heap.size, 0, none⟩ (.int .i64 o)).setCell ⟨w.heap.size, 1, none⟩ (.int .i64 k)).setCell ⟨w.heap.size, 2, none⟩ (.int .i64 v)).cell? ⟨w.heap.size, 0, none⟩ = some (.int .i64 o) ∧
      (((W.setCell ⟨w.heap.size, 0, none⟩ (.int .i64 o)).setCell ⟨w.heap.size, 1, none⟩ (.int .i64 k)).setCell ⟨w.heap.size, 2, none⟩ (.int .i64 v)).cell? ⟨w.heap.size, 1, none⟩ = some (.int .i64 k) ∧
      (((W.setCell ⟨w.heap.size, 0, none⟩ (.int .i64 o)).setCell ⟨w.heap.size, 1, none⟩ (.int .i64 k)).setCell ⟨w.heap.size, 2, none⟩ (.int .i64 v)).cell? ⟨w.heap.size, 2, none⟩ = some (.int .i64 v)) := by
  obtain ⟨a, b, c, hR⟩ := h.hR
  have hp := put3 (.int .i64 o) (.int .i64 k) (.int .i64 v) hR
  have hcW : Chg (fun g => g = w.heap.size) W (((W.setCell ⟨w.heap.size, 0, none⟩ (.int .i64 o)).setCell ⟨w.heap.size, 1, none⟩ (.int .i64 k)).setCell ⟨w.heap.size, 2, none⟩ (.int .i64 v)) :=
    Chg.setAt (F := fun g => g = w.heap.size) (Chg.setAt (F := fun g => g = w.heap.size) (Chg.setAt (F := fun g => g = w.heap.size) (Chg.refl _ _) _ _ rfl _) _ _ rfl _) _ _ rfl _
  refine ⟨⟨?_, ?_⟩, (at3 hp).1⟩
  · exact h.bel.trans (hcW.below (fun g _ e => by omega) h.bel.size)
  · exact owns_mono (owns_chg h.own hcW (fun g hg e => by have := (h.own.lt g hg).1; omega)) (by omega)

theorem MDEnd.chgC {w : World} {v1 : Value} {l : PL} {M : Nat} {o k v : Int} {W W' : World} (h : MDEnd w v1 l M o k v W) (hc : Cur W' (w.heap.size + 1)) (hg : Chg (fun g => g = w.heap.size + 1) W W') : MDEnd w v1 l M o k v W' := by
  obtain ⟨a, b, c, hR⟩ := h.hR
  have h1 := h.rM
  exact ⟨h.bel.trans (hg.below (fun g _ e => by omega) h.bel.size), owns_chg h.own hg (fun g hg e => by have := (h.own.lt g hg).1; omega), h.lt, ⟨a, b, c, row_chg hR hg (by omega)⟩, row_chg h.hM hg (by omega), h.rM, hc⟩

theorem MDEnd.setK {w : World} {v1 : Value} {l : PL} {M : Nat} {o k v : Int} {W : World} (h : MDEnd w v1 l M o k v W) (k' : Int) : MDEnd w v1 l M o k' v (W.setCell ⟨M, 1, none⟩ (.int .i64 k')) := by
  obtain ⟨a, b, c, hR⟩ := h.hR
  have h1 := h.rM
  have cM : Chg (fun g => g = M) W (W.setCell ⟨M, 1, none⟩ (.int .i64 k')) := Chg.setAt (F := fun g => g = M) (Chg.refl _ _) _ _ rfl _
  exact ⟨h.bel.trans (cM.below (fun g _ e => by omega) h.bel.size), owns_chg h.own cM (fun g hg e => by have := h.lt g hg; omega), h.lt, ⟨a, b, c, row_chg hR cM (by omega)⟩, set32 _ h.hM, h.rM, h.cur.chg cM (fun g e => by omega)⟩

set_option maxRecDepth 100000 in
set_option maxHeartbeats 2000000 in
theorem drawMapDo_any (v : Value) (bs : List Int) (w : World) (hc : Code8 w v bs) (hn : bs.length ≤ 1048576) :
    Calls Try.prog 21 #[v] w fun e w' => ∃ (v1 : Value) (l : PL) (o k x : Int), e = .returned (.tuple #[v1, .agg #[.int .i64 o, .int .i64 k, .int .i64 x]]) ∧ l.length ≤ 9 ∧ w'.ownsRow w.heap.size 75 2 v1 l.length (flatP l) ∧ Below w.heap.size w w' := by
  have CO : Hid (Code8 w v bs) := hc
  clear hc
  go_enter Try.func21, Try.ntmps21
  go_wp2_with fail
  have hs0 : (w.alloc (.cells #[.int .i64 0, .int .i64 0, .int .i64 0] 33)).heap.size = w.heap.size + 1 := by simp
  refine (l1New_any v bs _ (CO.out.below ((Below.refl _ _).alloc (Nat.le_refl _) _)) hn).mono ?_
  rintro e w1 ⟨rfl, c1, hlt, b1⟩
  have R1 : w1.heap[w.heap.size]? = some (.cells #[.int .i64 0, .int .i64 0, .int .i64 0] 33 (0, 0)) := by
    rw [b1.block _ (by simp)]; exact heap_alloc_new _ _
  have B1 : Below w.heap.size w w1 := Below.and ((Below.refl _ _).alloc (Nat.le_refl _) _) b1
  rw [hs0] at c1 hlt ⊢
  have I1 : Hid _ := And.intro c1 (And.intro B1 R1)
  clear c1 b1 B1 R1 hs0
  go_wp2_with fail
  refine (l1DrawBadMap_any (w.heap.size + 1) _ I1.out.1).mono ?_
  rintro e w2 ⟨v1, l, rfl, hl, o2, c2, g2⟩
  have B2 : Below w.heap.size w w2 := I1.out.2.1.trans (g2.below (fun g _ e => by omega) (by omega))
  have I2 : Hid _ := And.intro (owns_mono (base' := w.heap.size + 2) o2 (by omega)) (And.intro c2 (And.intro B2 (row_chg I1.out.2.2 g2 (by omega))))
  clear o2 c2 g2 B2 I1
  go_wp2_with fail
  refine (l1DrawBad_any (w.heap.size + 1) _ I2.out.2.1).mono ?_
  rintro e w3 ⟨o, k, x, rfl, c3, g3⟩
  have B3 : Below w.heap.size w w3 := I2.out.2.2.1.trans (g3.below (fun g _ e => by omega) I2.out.2.2.1.size)
  have O3 := owns_chgC I2.out.1 g3 (by omega)
  have R3 := row_chg I2.out.2.2.2 g3 (by omega)
  have hs3 : w.heap.size < w3.heap.size := (Array.getElem?_eq_some_iff.1 R3).1
  have E0 : Hid (MDEnd w v1 l w3.heap.size o k x (w3.alloc (.cells #[.int .i64 o, .int .i64 k, .int .i64 x] 33))) :=
    ⟨B3.alloc B3.size _, O3.alloc _, fun g hg => (O3.lt g hg).2, ⟨_, _, _, by rw [Below.heap_alloc _ _ _ hs3]; exact R3⟩, heap_alloc_new _ _, c3.lt, c3.alloc _⟩
  obtain ⟨a, b, off, cap, hv1, hcap, hmax, ha, hk, hvv⟩ := (Row.of_owns O3).pairs
  unfold maxLen at hmax
  have R3H : Hid _ := R3
  clear O3 R3 B3 c3 g3 I2
  by_cases hl0 : 0 < l.length
  · obtain rfl := ha hl0
    subst hv1
    go_wp2_with fail
    refine (l1Once_any (w.heap.size + 1) 2 _ E0.out.cur (by decide)).mono ?_
    rintro e w4 ⟨y, rfl, c4, g4⟩
    have E4 : Hid _ := E0.out.chgC c4 g4
    clear c4 g4 E0 hk hvv
    cases y
    · have E5 := E4.out
      obtain ⟨⟨m0, m1, m2⟩, n0, n1, n2⟩ := at3 E5.hM
      obtain ⟨ra, rb, rc, hRR⟩ := E5.hR
      obtain ⟨⟨r0, r1, r2⟩, t0, t1, t2⟩ := at3 hRR
      have FIN : Hid _ := E5.fin
      clear hRR
      go_wp2_with fail
      go_region
      all_goals
        go_wp2
        obtain ⟨⟨k1, k2⟩, q0, q1, q2⟩ := FIN.out
        exact bodyPost_ret (v := .tuple #[_, .agg #[.int .i64 o, .int .i64 k, .int .i64 x]]) (by simp [results, Try.results21, go_sem, q0, q1, q2]) rfl ⟨_, l, _, _, _, rfl, hl, owns_below k2 (Below.refl _ _).drew, k1.drew⟩
    · go_wp2_with fail
      refine (l1Below_any (w.heap.size + 1) l.length _ E4.out.cur (by omega)).mono ?_
      rintro e w5 ⟨z, rfl, hz0, hz1, _, c5, g5⟩
      have hzl := hz1 (by omega)
      obtain ⟨i, rfl⟩ := Int.eq_ofNat_of_zero_le hz0
      have hi : i < l.length := by omega
      have E5 := E4.out.chgC c5 g5
      obtain ⟨a', b', off', cap', hv1', _, _, ha', hk, hvv⟩ := (Row.of_owns E5.own).pairs
      simp only [Value.slice.injEq, true_and] at hv1'
      obtain ⟨hae, rfl⟩ := hv1'
      have hab := ha' hl0
      rw [← hae] at hab
      simp only [Option.some.injEq, Addr.mk.injEq, and_true] at hab
      obtain ⟨rfl, rfl⟩ := hab
      have d0 := hk i hi
      generalize kOf l i = kk at *
      obtain ⟨⟨a0, a1, a2⟩, b0, b1, b2⟩ := at3 E5.hM
      have E6 := E5.setK kk
      clear c5 g5 hz1 hk hvv ha' hae
      obtain ⟨⟨m0, m1, m2⟩, n0, n1, n2⟩ := at3 E6.hM
      obtain ⟨ra, rb, rc, hRR⟩ := E6.hR
      obtain ⟨⟨r0, r1, r2⟩, t0, t1, t2⟩ := at3 hRR
      have FIN : Hid _ := E6.fin
      clear hRR
      go_wp2_with fail
      go_region
      all_goals
        go_wp2
        obtain ⟨⟨k1, k2⟩, q0, q1, q2⟩ := FIN.out
        exact bodyPost_ret (v := .tuple #[_, .agg #[.int .i64 o, .int .i64 kk, .int .i64 x]]) (by simp [results, Try.results21, go_sem, q0, q1, q2]) rfl ⟨_, l, _, _, _, rfl, hl, owns_below k2 (Below.refl _ _).drew, k1.drew⟩
  · subst hv1
    have hz : l.length = 0 := by omega
    clear ha hk hvv
    obtain ⟨⟨m0, m1, m2⟩, n0, n1, n2⟩ := at3 E0.out.hM
    obtain ⟨⟨r0, r1, r2⟩, t0, t1, t2⟩ := at3 R3H.out
    have FIN0 := E0.out.fin
    rw [World.setCell_alloc_past _ _ _ _ hs3, World.setCell_alloc_past _ _ _ _ (by simpa using hs3), World.setCell_alloc_past _ _ _ _ (by simpa using hs3)] at FIN0
    have FIN : Hid _ := FIN0
    clear FIN0
    go_wp2_with fail
    go_region
    all_goals
      go_wp2
      obtain ⟨⟨k1, k2⟩, q0, q1, q2⟩ := FIN.out
      exact bodyPost_ret (v := .tuple #[.slice a l.length cap, .agg #[.int .i64 o, .int .i64 k, .int .i64 x]]) (by simp [results, Try.results21, go_sem, q0, q1, q2, hz]) rfl ⟨_, l, _, _, _, rfl, hl, owns_below k2 (Below.refl _ _).drew, k1.drew⟩

end Go.Proofs.Ytlapcjbhhonagaa
