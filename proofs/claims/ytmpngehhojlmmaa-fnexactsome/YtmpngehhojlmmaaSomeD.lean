/-
  Some: those writes of which it is told so, and Do of them; the program's and the model's.
-/
import Derived.Test.YtmpngehhojlmmaaDskI
import Derived.Test.YtmpngehhojlmmaaDskS
import Derived.Test.YtmpngehhojlmmaaBools
namespace Go.Proofs.Ytmpngehhojlmmaa
open Go.RowKit

theorem DiskOwn.shape' {w : World} {base : Nat} {v : Value} {P : PL} {S : SL} (h : DiskOwn w base v P S) : ∃ a1 q1 a2 q2, v = .agg #[.slice a1 P.length q1, .slice a2 S.length q2] := by
  obtain ⟨x, y, rfl, h1, h2⟩ := h
  obtain ⟨a1, q1, rfl⟩ := owns_val h1
  obtain ⟨a2, q2, rfl⟩ := owns_val h2
  exact ⟨a1, q1, a2, q2, rfl⟩
/-- those of the first k writes of which the truths tell so -/
def selK (l : List Wr) (bs : List Bool) : Nat → List Wr
  | 0 => []
  | k + 1 => selK l bs k ++ (if (decide (k < bs.length) && bOf bs k) = true then [(wA l k, wT l k, wV l k, wR l k)] else [])
theorem selK_le (l : List Wr) (bs : List Bool) : ∀ k, (selK l bs k).length ≤ k
  | 0 => Nat.le_refl _
  | k + 1 => by
    have := selK_le l bs k
    rw [selK, List.length_append]
    split <;> simp <;> omega
theorem selK_mem (l : List Wr) (bs : List Bool) : ∀ k, k ≤ l.length → ∀ x ∈ selK l bs k, x ∈ l
  | 0, _, x, hx => by simp [selK] at hx
  | k + 1, hk, x, hx => by
    rw [selK, List.mem_append] at hx
    rcases hx with hx | hx
    · exact selK_mem l bs k (by omega) x hx
    · split at hx
      · simp only [List.mem_singleton] at hx
        have e := wAll_eq l k (by omega)
        unfold wAll at e
        rw [hx, e]
        simp
      · simp at hx
theorem selK_stop (l : List Wr) (bs : List Bool) : ∀ j, selK l bs (bs.length + j) = selK l bs bs.length
  | 0 => rfl
  | j + 1 => by
    rw [← Nat.add_assoc, selK, selK_stop l bs j, if_neg (by simp; omega), List.append_nil]
theorem selK_yes {l : List Wr} {bs : List Bool} {k : Nat} (h : k < bs.length) (hb : bOf bs k = true) : selK l bs (k + 1) = selK l bs k ++ [(wA l k, wT l k, wV l k, wR l k)] := by
  rw [selK, if_pos (by simp [h, hb])]
theorem selK_no {l : List Wr} {bs : List Bool} {k : Nat} (h : (decide (k < bs.length) && bOf bs k) = false) : selK l bs (k + 1) = selK l bs k := by
  rw [selK, if_neg (by rw [h]; simp), List.append_nil]
theorem flatW_snoc (l : List Wr) (a : Int) (t : ByteArray) (b c : Int) : flatW l ++ [.int .i64 a, .string t, .int .i64 b, .int .i64 c] = flatW (l ++ [(a, t, b, c)]) := by rw [flatW_append]; rfl
theorem four_one (a : Int) (t : ByteArray) (b c : Int) : ∀ u ∈ [Value.int .i64 a, Value.string t, Value.int .i64 b, Value.int .i64 c], u.oneCell' = true := by
  intro u hu; simp at hu; rcases hu with rfl | rfl | rfl | rfl <;> rfl

theorem Gd.app {w W w' : World} {c0 c1 : Array Value} {base n : Nat} {v : Value} {xs : List Value} (h : Gd w (.cells c0 27) (.cells c1 27) W) (o : W.ownsRow base 35 4 v n xs) (c : Chg (fun g => v.ownBlock = some g) W w') (hb : Below w.heap.size W w') : Gd w (.cells c0 27) (.cells c1 27) w' :=
  ⟨h.1.trans hb, Nat.lt_of_lt_of_le h.2.1 hb.size, row_chg h.2.2.1 c (fun hg => own_ne o h.2.2.1 (by decide) hg rfl), row_chg h.2.2.2 c (fun hg => own_ne o h.2.2.2 (by decide) hg rfl)⟩

set_option maxRecDepth 100000 in
set_option maxHeartbeats 1000000 in
theorem implSome_any (v : Value) (P : PL) (S : SL) (vl : Value) (l : List Wr) (vb : Value) (bs : List Bool) (w : World) (hd : DiskRow w v P S) (hl : Row w vl l.length (flatW l)) (hbs : Row w vb bs.length (flatL bs)) (hP : P.length ≤ 1048576) (hS : S.length ≤ 1048576) (hL : l.length ≤ 1048576)
    (hA : ∀ x ∈ l, -9223372036854775808 ≤ x.1 ∧ x.1 ≤ 9223372036854775807) :
    Calls Try.prog 11 #[v, vl, vb] w fun e w' => ∃ v', e = .returned v' ∧ DiskOwn w' w.heap.size v' (doP P (selK l bs l.length)) (doS S (selK l bs l.length)) ∧ Below w.heap.size w w' := by
  obtain ⟨vp, vs, rfl, r1, r2⟩ := hd
  obtain ⟨a, b, off, cap, rfl, hcap, hmax, ha, hk⟩ := hl.writs
  obtain ⟨a', b', off', cap', rfl, hcap', hmax', ha', hk'⟩ := hbs.bools
  obtain ⟨i0, hi0, hz0, hz1, hz2⟩ := info_parts Try.info35
  unfold maxLen at hmax hmax'
  have HK : Hid _ := And.intro ha hk
  have HK' : Hid _ := And.intro ha' hk'
  have RD : Hid (∀ u, Below w.heap.size w u → DiskRow u (.agg #[vp, vs]) P S) := fun u hu => ⟨vp, vs, rfl, r1.below hu, r2.below hu⟩
  have GS : Hid (Gd w (.cells #[vp, vs] 27) (.cells #[.slice none 0 0, .slice none 0 0] 27) ((w.alloc (.cells #[vp, vs] 27)).alloc (.cells #[.slice none 0 0, .slice none 0 0] 27))) := Gd.start w _ _
  clear hl hbs r1 r2 ha hk ha' hk'
  go_enter Try.func11, Try.ntmps11
  go_wp2
  go_loopw [7, 12] (fun s i wr => ∃ (k : Nat) (ad : Option Addr) (q : Nat), k ≤ l.length ∧ i = .int .i64 k ∧ s = .slice ad (selK l bs k).length q ∧ Hid (wr.ownsRow w.heap.size 35 4 (.slice ad (selK l bs k).length q) (selK l bs k).length (flatW (selK l bs k)) ∧ Gd w (.cells #[vp, vs] 27) (.cells #[.slice none 0 0, .slice none 0 0] 27) wr)) (fun _ i _ => l.length - (intOf i).toNat)
  case atStart => exact ⟨0, none, 0, Nat.zero_le _, rfl, rfl, ⟨by simp [selK, flatW], Or.inl ⟨rfl, rfl⟩⟩, GS.out⟩
  case round =>
    obtain ⟨k, ad, q, hkl, rfl, rfl, hI⟩ := hrel
    clear GS
    by_cases hlt : k < l.length
    · have hal := HK.out.1 (by omega)
      subst hal
      obtain ⟨c0, c1, c2, c3⟩ := HK.out.2 k hlt
      have hb := hI.out.2.1
      have d0 := (hb.cell (by exact cell_lt c0)).trans c0
      have d1 := (hb.cell (by exact cell_lt c1)).trans c1
      have d2 := (hb.cell (by exact cell_lt c2)).trans c2
      have d3 := (hb.cell (by exact cell_lt c3)).trans c3
      have SY := fun h1 h2 => selK_yes (l := l) (bs := bs) (k := k) h1 h2
      have SN := fun h => selK_no (l := l) (bs := bs) (k := k) h
      have hsl := selK_le l bs k
      clear c0 c1 c2 c3
      by_cases hkb : k < bs.length
      · have hal' := HK'.out.1 (by omega)
        subst hal'
        have x0 := HK'.out.2 k hkb
        have y0 := (hb.cell (by exact cell_lt x0)).trans x0
        have bl : b' < wr.heap.size := Nat.lt_of_lt_of_le (cell_lt x0) hb.size
        have bn : ¬ b' = wr.heap.size := by omega
        have bm : ¬ wr.heap.size = b' := by omega
        clear x0 hb
        cases hbo : bOf bs k with
        | false =>
          have E := SN (by rw [hbo]; simp)
          rw [hbo] at y0
          have F : Hid ((wr.alloc (.cells #[.int .i64 (wA l k), .string (wT l k), .int .i64 (wV l k), .int .i64 (wR l k)] 35)).ownsRow w.heap.size 35 4 (.slice ad (selK l bs (k + 1)).length q) (selK l bs (k + 1)).length (flatW (selK l bs (k + 1))) ∧ Gd w (.cells #[vp, vs] 27) (.cells #[.slice none 0 0, .slice none 0 0] 27) (wr.alloc (.cells #[.int .i64 (wA l k), .string (wT l k), .int .i64 (wV l k), .int .i64 (wR l k)] 35))) := by rw [E]; exact ⟨owns_below hI.out.1 (bel_al (Below.refl _ _) _), Gd.al hI.out.2 _⟩
          have HE : Hid _ := E
          clear E SY SN hI
          go_wp2
          go_roundw
          case rel => exact ⟨k + 1, ad, q, by omega, by go_num, by rw [HE.out], F.out⟩
          case measure => simp [intOf]; omega
        | true =>
          have E := SY hkb hbo
          rw [hbo] at y0
          have HE : Hid _ := E
          have O1 : Hid ((wr.alloc (.cells #[.int .i64 (wA l k), .string (wT l k), .int .i64 (wV l k), .int .i64 (wR l k)] 35)).ownsRow w.heap.size 35 4 (.slice ad (selK l bs k).length q) (selK l bs k).length (flatW (selK l bs k)) ∧ Gd w (.cells #[vp, vs] 27) (.cells #[.slice none 0 0, .slice none 0 0] 27) (wr.alloc (.cells #[.int .i64 (wA l k), .string (wT l k), .int .i64 (wV l k), .int .i64 (wR l k)] 35))) := ⟨owns_below hI.out.1 (bel_al (Below.refl _ _) _), Gd.al hI.out.2 _⟩
          have HR : Hid _ := room_of (n := (selK l bs k).length) (bytes := 40) (by omega) (by decide)
          have HB : Hid (w.heap.size ≤ (wr.alloc (.cells #[.int .i64 (wA l k), .string (wT l k), .int .i64 (wV l k), .int .i64 (wR l k)] 35)).heap.size) := O1.out.2.1.size
          clear E SY SN hI
          go_wp2_with (at_builtin; refine app_one (wr.alloc (.cells #[.int .i64 (wA l k), .string (wT l k), .int .i64 (wV l k), .int .i64 (wR l k)] 35)) rfl _ _ 28 rfl w.heap.size 35 i0 _ 4 40 Try.underlying28 hi0 hz0 hz1 hz2 rfl (by decide) (.slice ad (selK l bs k).length q) (selK l bs k).length (flatW (selK l bs k)) rfl O1.out.1 [.int .i64 (wA l k), .string (wT l k), .int .i64 (wV l k), .int .i64 (wR l k)] (by rw [al_size]; rfl) rfl (four_one _ _ _ _) HR.out.1 HR.out.2 HB.out ?_)
          intro v' w' ho hc hbel
          have G' := O1.out.2.app O1.out.1 hc hbel
          rw [flatW_snoc, ← HE.out] at ho
          have hln : (selK l bs k).length + 1 = (selK l bs (k + 1)).length := by rw [HE.out]; simp
          rw [hln] at ho
          obtain ⟨ad', q', rfl⟩ := owns_val ho
          have F : Hid _ := And.intro ho G'
          clear ho hc hbel G' O1 HR HB hln y0 d0 d1 d2 d3
          go_wp2
          go_roundw
          case rel => exact ⟨k + 1, ad', q', by omega, by go_num, rfl, F.out⟩
          case measure => simp [intOf]; omega
      · have E := SN (by simp [hkb])
        have F : Hid ((wr.alloc (.cells #[.int .i64 (wA l k), .string (wT l k), .int .i64 (wV l k), .int .i64 (wR l k)] 35)).ownsRow w.heap.size 35 4 (.slice ad (selK l bs (k + 1)).length q) (selK l bs (k + 1)).length (flatW (selK l bs (k + 1))) ∧ Gd w (.cells #[vp, vs] 27) (.cells #[.slice none 0 0, .slice none 0 0] 27) (wr.alloc (.cells #[.int .i64 (wA l k), .string (wT l k), .int .i64 (wV l k), .int .i64 (wR l k)] 35))) := by rw [E]; exact ⟨owns_below hI.out.1 (bel_al (Below.refl _ _) _), Gd.al hI.out.2 _⟩
        have HE : Hid _ := E
        clear E SY SN hI hb
        go_wp2
        go_roundw
        case rel => exact ⟨k + 1, ad, q, by omega, by go_num, by rw [HE.out], F.out⟩
        case measure => simp [intOf]; omega
    · have hkk : k = l.length := by omega
      subst hkk
      have m0 : wr.cell? ⟨w.heap.size, 0, none⟩ = some vp := cell_of_cells hI.out.2.2.2.1
      have m1 : wr.cell? ⟨w.heap.size, 1, none⟩ = some vs := cell_of_cells hI.out.2.2.2.1
      have hln := selK_le l bs l.length
      have HA : Hid (∀ x ∈ selK l bs l.length, -9223372036854775808 ≤ x.1 ∧ x.1 ≤ 9223372036854775807) := fun x hx => hA x (selK_mem l bs l.length (Nat.le_refl _) x hx)
      clear hA HK HK'
      generalize hLL : selK l bs l.length = L at *
      have HL : Hid _ := hLL
      clear hLL
      go_wp2_with fail
      refine (implDo_any _ P S _ L wr (RD.out _ hI.out.2.1) (Row.of_owns hI.out.1) hP hS HA.out).mono ?_
      rintro e w1 ⟨v1, rfl, o1, b1⟩
      obtain ⟨a1, q1, a2, q2, hv⟩ := o1.shape'
      subst hv
      have G1 := Gd.below hI.out.2 b1
      have hR := G1.2.2.2
      have n0 : w1.cell? ⟨w.heap.size + 1, 0, none⟩ = some (.slice none 0 0) := cell_of_cells hR
      have n1 : w1.cell? ⟨w.heap.size + 1, 1, none⟩ = some (.slice none 0 0) := cell_of_cells hR
      have f0 : w1.frozen? ⟨w.heap.size + 1, 0, none⟩ = false := frozen_of_cells hR
      have f1 : w1.frozen? ⟨w.heap.size + 1, 1, none⟩ = false := frozen_of_cells hR
      have ch : Chg (fun g => g = w.heap.size + 1) w1 ((w1.setCell ⟨w.heap.size + 1, 0, none⟩ (.slice a1 (doP P L).length q1)).setCell ⟨w.heap.size + 1, 1, none⟩ (.slice a2 (doS S L).length q2)) := ((Chg.refl (fun g => g = w.heap.size + 1) _).setAt (w.heap.size + 1) 0 rfl _).setAt (w.heap.size + 1) 1 rfl _
      have F : Hid (DiskOwn ((w1.setCell ⟨w.heap.size + 1, 0, none⟩ (.slice a1 (doP P L).length q1)).setCell ⟨w.heap.size + 1, 1, none⟩ (.slice a2 (doS S L).length q2)) w.heap.size (.agg #[.slice a1 (doP P L).length q1, .slice a2 (doS S L).length q2]) (doP P L) (doS S L) ∧ Below w.heap.size w ((w1.setCell ⟨w.heap.size + 1, 0, none⟩ (.slice a1 (doP P L).length q1)).setCell ⟨w.heap.size + 1, 1, none⟩ (.slice a2 (doS S L).length q2))) :=
        ⟨(o1.chg ch (fun g hg => o1.ne hR hg)).mono (Gd.size hI.out.2), G1.1.trans (ch.below (fun g _ hg => by omega) G1.1.size)⟩
      clear o1 b1 G1 hR ch hI RD HA m0 m1
      go_wp2
      refine bodyPost_ret (v := .agg #[.slice a1 (doP P L).length q1, .slice a2 (doS S L).length q2]) (by simp [results, Try.results11, go_sem, n0, n1]) rfl ⟨_, rfl, by rw [HL.out]; exact F.out⟩

end Go.Proofs.Ytmpngehhojlmmaa
