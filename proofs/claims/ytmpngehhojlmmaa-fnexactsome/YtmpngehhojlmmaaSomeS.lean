/-
  The model's Some.
-/
import Derived.Test.YtmpngehhojlmmaaSomeD
namespace Go.Proofs.Ytmpngehhojlmmaa
open Go.RowKit

theorem DiskE.shape'' {w : World} {base : Nat} {v : Value} {P : PL} {S : SL} (h : DiskE w base v P S) : ∃ a1 q1 a2 q2, v = .agg #[.slice a1 P.length q1, .slice a2 S.length q2] := by
  obtain ⟨x, y, rfl, h1, h2⟩ := h
  obtain ⟨a1, q1, rfl⟩ := h1.slice
  obtain ⟨a2, q2, rfl⟩ := h2.slice
  exact ⟨a1, q1, a2, q2, rfl⟩

set_option maxRecDepth 100000 in
set_option maxHeartbeats 1000000 in
theorem specSome_any (v : Value) (P : PL) (S : SL) (vl : Value) (l : List Wr) (vb : Value) (bs : List Bool) (w : World) (hd : DiskRow w v P S) (hl : Row w vl l.length (flatW l)) (hbs : Row w vb bs.length (flatL bs)) (hP : P.length ≤ 1048576) (hS : S.length ≤ 1048576) (hL : l.length ≤ 1048576)
    (hA : ∀ x ∈ l, -9223372036854775808 ≤ x.1 ∧ x.1 ≤ 9223372036854775807) :
    Calls Try.prog 12 #[v, vl, vb] w fun e w' => ∃ v', e = .returned v' ∧ DiskE w' w.heap.size v' (doP P (selK l bs l.length)) (doS S (selK l bs l.length)) ∧ Below w.heap.size w w' := by
  obtain ⟨vp, vs, rfl, r1, r2⟩ := hd
  obtain ⟨a, b, off, cap, rfl, hcap, hmax, ha, hk⟩ := hl.writs
  obtain ⟨a', b', off', cap', rfl, hcap', hmax', ha', hk'⟩ := hbs.bools
  obtain ⟨i0, hi0, hz0, hz1, hz2⟩ := info_parts Try.info35
  unfold maxLen at hmax hmax'
  have HK : Hid _ := And.intro ha hk
  have HK' : Hid _ := And.intro ha' hk'
  have RD : Hid (∀ u, Below w.heap.size w u → DiskRow u (.agg #[vp, vs]) P S) := fun u hu => ⟨vp, vs, rfl, r1.below hu, r2.below hu⟩
  have GS : Hid (Gd w (.cells #[vp, vs] 27) (.cells #[.slice none 0 0, .slice none 0 0] 27) ((w.alloc (.cells #[vp, vs] 27)).alloc (.cells #[.slice none 0 0, .slice none 0 0] 27))) := Gd.start w _ _
  have OS : Hid ((((w.alloc (.cells #[vp, vs] 27)).alloc (.cells #[.slice none 0 0, .slice none 0 0] 27)).alloc (.cells #[] 35)).ownsRow w.heap.size 35 4 (.slice (some ⟨w.heap.size + 1 + 1, 0, none⟩) 0 0) 0 []) := by
    have := empty_own ((w.alloc (.cells #[vp, vs] 27)).alloc (.cells #[.slice none 0 0, .slice none 0 0] 27)) w.heap.size 35 4 (Gd.size GS.out)
    rw [al_size, al_size] at this
    exact this
  clear hl hbs r1 r2 ha hk ha' hk'
  go_enter Try.func12, Try.ntmps12
  go_wp2
  go_loopw [7, 8] (fun s i wr => ∃ (k : Nat) (ad : Option Addr) (q : Nat), k ≤ l.length ∧ k ≤ bs.length ∧ i = .int .i64 k ∧ s = .slice ad (selK l bs k).length q ∧ Hid (wr.ownsRow w.heap.size 35 4 (.slice ad (selK l bs k).length q) (selK l bs k).length (flatW (selK l bs k)) ∧ Gd w (.cells #[vp, vs] 27) (.cells #[.slice none 0 0, .slice none 0 0] 27) wr)) (fun _ i _ => l.length - (intOf i).toNat)
  case atStart => exact ⟨0, _, 0, Nat.zero_le _, Nat.zero_le _, rfl, rfl, OS.out, Gd.al GS.out _⟩
  case round =>
    obtain ⟨k, ad, q, hkl, hkb0, rfl, rfl, hI⟩ := hrel
    clear GS OS
    by_cases hlt : k < l.length ∧ k < bs.length
    · obtain ⟨hlt, hkb⟩ := hlt
      have hal := HK.out.1 (by omega)
      subst hal
      obtain ⟨c0, c1, c2, c3⟩ := HK.out.2 k hlt
      have hb := hI.out.2.1
      have d0 := (hb.cell (by exact cell_lt c0)).trans c0
      have d1 := (hb.cell (by exact cell_lt c1)).trans c1
      have d2 := (hb.cell (by exact cell_lt c2)).trans c2
      have d3 := (hb.cell (by exact cell_lt c3)).trans c3
      have SY := fun h2 => selK_yes (l := l) (bs := bs) (k := k) hkb h2
      have SN := fun h => selK_no (l := l) (bs := bs) (k := k) h
      have hsl := selK_le l bs k
      have hal' := HK'.out.1 (by omega)
      subst hal'
      have x0 := HK'.out.2 k hkb
      have y0 := (hb.cell (by exact cell_lt x0)).trans x0
      clear x0 hb c0 c1 c2 c3
      cases hbo : bOf bs k with
      | false =>
        have E := SN (by rw [hbo]; simp)
        rw [hbo] at y0
        have F : Hid (wr.ownsRow w.heap.size 35 4 (.slice ad (selK l bs (k + 1)).length q) (selK l bs (k + 1)).length (flatW (selK l bs (k + 1))) ∧ Gd w (.cells #[vp, vs] 27) (.cells #[.slice none 0 0, .slice none 0 0] 27) wr) := by rw [E]; exact hI.out
        have HE : Hid _ := E
        clear E SY SN hI
        go_wp2
        go_roundw
        case rel => exact ⟨k + 1, ad, q, by omega, by omega, by go_num, by rw [HE.out], F.out⟩
        case measure => simp [intOf]; omega
      | true =>
        have E := SY hbo
        rw [hbo] at y0
        have HE : Hid _ := E
        have HR : Hid _ := room_of (n := (selK l bs k).length) (bytes := 40) (by omega) (by decide)
        have HB : Hid (w.heap.size ≤ wr.heap.size) := hI.out.2.1.size
        clear E SY SN
        go_wp2_with (at_builtin; refine app_one wr rfl _ _ 28 rfl w.heap.size 35 i0 _ 4 40 Try.underlying28 hi0 hz0 hz1 hz2 rfl (by decide) (.slice ad (selK l bs k).length q) (selK l bs k).length (flatW (selK l bs k)) rfl hI.out.1 [.int .i64 (wA l k), .string (wT l k), .int .i64 (wV l k), .int .i64 (wR l k)] rfl rfl (four_one _ _ _ _) HR.out.1 HR.out.2 HB.out ?_)
        intro v' w' ho hc hbel
        have G' := Gd.app hI.out.2 hI.out.1 hc hbel
        rw [flatW_snoc, ← HE.out] at ho
        have hln : (selK l bs k).length + 1 = (selK l bs (k + 1)).length := by rw [HE.out]; simp
        rw [hln] at ho
        obtain ⟨ad', q', rfl⟩ := owns_val ho
        have F : Hid _ := And.intro ho G'
        clear ho hc hbel G' hI HR HB hln y0 d0 d1 d2 d3
        go_wp2
        go_roundw
        case rel => exact ⟨k + 1, ad', q', by omega, by omega, by go_num, rfl, F.out⟩
        case measure => simp [intOf]; omega
    · have hke : selK l bs k = selK l bs l.length := by
        by_cases h1 : k = l.length
        · rw [h1]
        · have h2 : k = bs.length := by omega
          obtain ⟨j, hj⟩ : ∃ j, l.length = bs.length + j := ⟨l.length - bs.length, by omega⟩
          rw [hj, selK_stop, h2]
      have m0 : wr.cell? ⟨w.heap.size, 0, none⟩ = some vp := cell_of_cells hI.out.2.2.2.1
      have m1 : wr.cell? ⟨w.heap.size, 1, none⟩ = some vs := cell_of_cells hI.out.2.2.2.1
      have hln := selK_le l bs l.length
      have HA : Hid (∀ x ∈ selK l bs l.length, -9223372036854775808 ≤ x.1 ∧ x.1 ≤ 9223372036854775807) := fun x hx => hA x (selK_mem l bs l.length (Nat.le_refl _) x hx)
      rw [hke] at hI ⊢
      clear hA HK HK' hke
      generalize hLL : selK l bs l.length = L at *
      have HL : Hid _ := hLL
      clear hLL
      have STEP : Hid (Calls Try.prog 9 #[.agg #[vp, vs], .slice ad L.length q] wr fun e w' => ∃ v', e = .returned v' ∧ DiskE w' wr.heap.size v' (doP P L) (doS S L) ∧ Below wr.heap.size wr w') := specDo_any _ P S _ L wr (RD.out _ hI.out.2.1) (Row.of_owns hI.out.1) hP hS HA.out
      by_cases hk1 : k < l.length
      · have hk2 : ¬ k < bs.length := fun h => hlt ⟨hk1, h⟩
        clear hlt
        go_wp2_with fail
        refine STEP.out.mono ?_
        rintro e w1 ⟨v1, rfl, o1, b1⟩
        obtain ⟨a1, q1, a2, q2, hv⟩ := o1.shape''
        subst hv
        have G1 := Gd.below hI.out.2 b1
        have hR := G1.2.2.2
        have n0 : w1.cell? ⟨w.heap.size + 1, 0, none⟩ = some (.slice none 0 0) := cell_of_cells hR
        have n1 : w1.cell? ⟨w.heap.size + 1, 1, none⟩ = some (.slice none 0 0) := cell_of_cells hR
        have f0 : w1.frozen? ⟨w.heap.size + 1, 0, none⟩ = false := frozen_of_cells hR
        have f1 : w1.frozen? ⟨w.heap.size + 1, 1, none⟩ = false := frozen_of_cells hR
        have ch : Chg (fun g => g = w.heap.size + 1) w1 ((w1.setCell ⟨w.heap.size + 1, 0, none⟩ (.slice a1 (doP P L).length q1)).setCell ⟨w.heap.size + 1, 1, none⟩ (.slice a2 (doS S L).length q2)) := ((Chg.refl (fun g => g = w.heap.size + 1) _).setAt (w.heap.size + 1) 0 rfl _).setAt (w.heap.size + 1) 1 rfl _
        have F : Hid (DiskE ((w1.setCell ⟨w.heap.size + 1, 0, none⟩ (.slice a1 (doP P L).length q1)).setCell ⟨w.heap.size + 1, 1, none⟩ (.slice a2 (doS S L).length q2)) w.heap.size (.agg #[.slice a1 (doP P L).length q1, .slice a2 (doS S L).length q2]) (doP P L) (doS S L) ∧ Below w.heap.size w ((w1.setCell ⟨w.heap.size + 1, 0, none⟩ (.slice a1 (doP P L).length q1)).setCell ⟨w.heap.size + 1, 1, none⟩ (.slice a2 (doS S L).length q2))) := by
          obtain ⟨x, y, e, e1, e2⟩ := o1
          simp at e
          obtain ⟨rfl, rfl⟩ := e
          exact ⟨⟨_, _, rfl, (e1.mono (Gd.size hI.out.2)).chg ch (fun g hg => ownE_ne e1 hR (by decide) hg), (e2.mono (Gd.size hI.out.2)).chg ch (fun g hg => ownE_ne e2 hR (by decide) hg)⟩, G1.1.trans (ch.below (fun g _ hg => by omega) G1.1.size)⟩
        clear o1 b1 G1 hR ch hI RD HA m0 m1 STEP
        go_wp2
        refine bodyPost_ret (v := .agg #[.slice a1 (doP P L).length q1, .slice a2 (doS S L).length q2]) (by simp [results, Try.results12, go_sem, n0, n1]) rfl ⟨_, rfl, by rw [HL.out]; exact F.out⟩
      · clear hlt
        go_wp2_with fail
        refine STEP.out.mono ?_
        rintro e w1 ⟨v1, rfl, o1, b1⟩
        obtain ⟨a1, q1, a2, q2, hv⟩ := o1.shape''
        subst hv
        have G1 := Gd.below hI.out.2 b1
        have hR := G1.2.2.2
        have n0 : w1.cell? ⟨w.heap.size + 1, 0, none⟩ = some (.slice none 0 0) := cell_of_cells hR
        have n1 : w1.cell? ⟨w.heap.size + 1, 1, none⟩ = some (.slice none 0 0) := cell_of_cells hR
        have f0 : w1.frozen? ⟨w.heap.size + 1, 0, none⟩ = false := frozen_of_cells hR
        have f1 : w1.frozen? ⟨w.heap.size + 1, 1, none⟩ = false := frozen_of_cells hR
        have ch : Chg (fun g => g = w.heap.size + 1) w1 ((w1.setCell ⟨w.heap.size + 1, 0, none⟩ (.slice a1 (doP P L).length q1)).setCell ⟨w.heap.size + 1, 1, none⟩ (.slice a2 (doS S L).length q2)) := ((Chg.refl (fun g => g = w.heap.size + 1) _).setAt (w.heap.size + 1) 0 rfl _).setAt (w.heap.size + 1) 1 rfl _
        have F : Hid (DiskE ((w1.setCell ⟨w.heap.size + 1, 0, none⟩ (.slice a1 (doP P L).length q1)).setCell ⟨w.heap.size + 1, 1, none⟩ (.slice a2 (doS S L).length q2)) w.heap.size (.agg #[.slice a1 (doP P L).length q1, .slice a2 (doS S L).length q2]) (doP P L) (doS S L) ∧ Below w.heap.size w ((w1.setCell ⟨w.heap.size + 1, 0, none⟩ (.slice a1 (doP P L).length q1)).setCell ⟨w.heap.size + 1, 1, none⟩ (.slice a2 (doS S L).length q2))) := by
          obtain ⟨x, y, e, e1, e2⟩ := o1
          simp at e
          obtain ⟨rfl, rfl⟩ := e
          exact ⟨⟨_, _, rfl, (e1.mono (Gd.size hI.out.2)).chg ch (fun g hg => ownE_ne e1 hR (by decide) hg), (e2.mono (Gd.size hI.out.2)).chg ch (fun g hg => ownE_ne e2 hR (by decide) hg)⟩, G1.1.trans (ch.below (fun g _ hg => by omega) G1.1.size)⟩
        clear o1 b1 G1 hR ch hI RD HA m0 m1 STEP
        go_wp2
        refine bodyPost_ret (v := .agg #[.slice a1 (doP P L).length q1, .slice a2 (doS S L).length q2]) (by simp [results, Try.results12, go_sem, n0, n1]) rfl ⟨_, rfl, by rw [HL.out]; exact F.out⟩

end Go.Proofs.Ytmpngehhojlmmaa
