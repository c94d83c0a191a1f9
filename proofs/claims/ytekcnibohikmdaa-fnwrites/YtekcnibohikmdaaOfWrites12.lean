/-
  Some: those writes of which it is told so, and Do of them; the program's and the model's.
  The model's Some.
  The number form, as a plain function on numbers: seven bits a byte, the lowest first.
  Rows of bytes: appended to one by one, held against each other, marked.
  The laws' own functions that write marks into a row of bytes, and look for them; the model's and the program's PutNum.
-/
import Derived.Test.YtekcnibohikmdaaOfWrites4
import Derived.Test.YtekcnibohikmdaaOfWrites11
import Derived.Test.YtekcnibohikmdaaOfWrites1
namespace Go.Proofs.Ytekcnibohikmdaa
set_option maxRecDepth 100000
set_option maxHeartbeats 8000000
section
open Go.RowKit

theorem DiskOwn.shape' {w : World} {base : Nat} {v : Value} {P : PgL} {S : SL} (h : DiskOwn w base v P S) : ∃ a1 q1 a2 q2, v = .agg #[.slice a1 P.length q1, .slice a2 S.length q2] := by
 obtain ⟨x, y, rfl, h1, h2⟩ := h
 obtain ⟨a1, q1, rfl⟩ := owns_val h1
 obtain ⟨a2, q2, rfl⟩ := owns_val h2
 exact ⟨a1, q1, a2, q2, rfl⟩
def selK (l : List Wr) (bs : List Bool) : Nat → List Wr
 | 0 => []
 | k + 1 => selK l bs k ++ (if (decide (k < bs.length) && bOf bs k) = true then [(wA l k, wT l k, wV l k, wR l k)] else [])
theorem selK_le (l : List Wr) (bs : List Bool) : ∀ k, (selK l bs k).length ≤ k
 | 0 => Nat.le_refl _
 | k + 1 => by
  have := selK_le l bs k
  rw [selK, List.length_append]
  split <;> simp <;> omega
theorem selK_mem (l : List Wr) (bs : List Bool) : ∀ k, k ≤ l.length → ∀ x ∈ selK l bs k, x ∈ l
 | 0, _, x, hx => by simp [selK] at hx
 | k + 1, hk, x, hx => by
  rw [selK, List.mem_append] at hx
  rcases hx with hx | hx
  ·exact selK_mem l bs k (by omega) x hx
  ·split at hx
   ·simp only [List.mem_singleton] at hx
    have e := wAll_eq l k (by omega)
    unfold wAll at e
    rw [hx, e]
    simp
   ·simp at hx
theorem selK_stop (l : List Wr) (bs : List Bool) : ∀ j, selK l bs (bs.length + j) = selK l bs bs.length
 | 0 => rfl
 | j + 1 => by
  rw [← Nat.add_assoc, selK, selK_stop l bs j, if_neg (by simp; omega), List.append_nil]
theorem selK_yes {l : List Wr} {bs : List Bool} {k : Nat} (h : k < bs.length) (hb : bOf bs k = true) : selK l bs (k + 1) = selK l bs k ++ [(wA l k, wT l k, wV l k, wR l k)] := by
 rw [selK, if_pos (by simp [h, hb])]
theorem selK_no {l : List Wr} {bs : List Bool} {k : Nat} (h : (decide (k < bs.length) && bOf bs k) = false) : selK l bs (k + 1) = selK l bs k := by
 rw [selK, if_neg (by rw [h]; simp), List.append_nil]
theorem flatW_snoc (l : List Wr) (a : Int) (t : ByteArray) (b c : Int) : flatW l ++ [.int .i64 a, .string t, .int .i64 b, .int .i64 c] = flatW (l ++ [(a, t, b, c)]) := by rw [flatW_append]; rfl
theorem four_one (a : Int) (t : ByteArray) (b c : Int) : ∀ u ∈ [Value.int .i64 a, Value.string t, Value.int .i64 b, Value.int .i64 c], u.oneCell' = true := by
 intro u hu; simp at hu; rcases hu with rfl | rfl | rfl | rfl <;> rfl

theorem Gd.app {w W w' : World} {c0 c1 : Array Value} {base n : Nat} {v : Value} {xs : List Value} (h : Gd w (.cells c0 27) (.cells c1 27) W) (o : W.ownsRow base 35 4 v n xs) (c : Chg (fun g => v.ownBlock = some g) W w') (hb : Below w.heap.size W w') : Gd w (.cells c0 27) (.cells c1 27) w' :=
 ⟨h.1.trans hb, Nat.lt_of_lt_of_le h.2.1 hb.size, row_chg h.2.2.1 c (fun hg => own_ne o h.2.2.1 (by decide) hg rfl), row_chg h.2.2.2 c (fun hg => own_ne o h.2.2.2 (by decide) hg rfl)⟩

theorem implSome_any (v : Value) (P : PgL) (S : SL) (vl : Value) (l : List Wr) (vb : Value) (bs : List Bool) (w : World) (hd : DiskRow w v P S) (hl : Row w vl l.length (flatW l)) (hbs : Row w vb bs.length (flatL bs)) (hP : P.length ≤ 1048576) (hS : S.length ≤ 1048576) (hL : l.length ≤ 1048576)
  (hA : ∀ x ∈ l, -9223372036854775808 ≤ x.1 ∧ x.1 ≤ 9223372036854775807) :
  Calls Try.prog 9 #[v, vl, vb] w fun e w' => ∃ v', e = .returned v' ∧ DiskOwn w' w.heap.size v' (dkP P (selK l bs l.length)) (dkS S (selK l bs l.length)) ∧ Below w.heap.size w w' := by
 obtain ⟨vp, vs, rfl, r1, r2⟩ := hd
 obtain ⟨a, b, off, cap, rfl, hcap, hmax, ha, hk⟩ := hl.writs
 obtain ⟨a', b', off', cap', rfl, hcap', hmax', ha', hk'⟩ := hbs.bools
 obtain ⟨i0, hi0, hz0, hz1, hz2⟩ := info_parts Try.info35
 unfold maxLen at hmax hmax'
 have HK : Hid _ := And.intro ha hk
 have HK' : Hid _ := And.intro ha' hk'
 have RD : Hid (∀ u, Below w.heap.size w u → DiskRow u (.agg #[vp, vs]) P S) := fun u hu => ⟨vp, vs, rfl, r1.below hu, r2.below hu⟩
 have GS : Hid (Gd w (.cells #[vp, vs] 27) (.cells #[.slice none 0 0, .slice none 0 0] 27) ((w.alloc (.cells #[vp, vs] 27)).alloc (.cells #[.slice none 0 0, .slice none 0 0] 27))) := Gd.start w _ _
 clear hl hbs r1 r2 ha hk ha' hk'
 go_enter Try.func9, Try.ntmps9
 go_wp2
 go_loopw [7, 12] (fun s i wr => ∃ (k : Nat) (ad : Option Addr) (q : Nat), k ≤ l.length ∧ i = .int .i64 k ∧ s = .slice ad (selK l bs k).length q ∧ Hid (wr.ownsRow w.heap.size 35 4 (.slice ad (selK l bs k).length q) (selK l bs k).length (flatW (selK l bs k)) ∧ Gd w (.cells #[vp, vs] 27) (.cells #[.slice none 0 0, .slice none 0 0] 27) wr)) (fun _ i _ => l.length - (intOf i).toNat)
 case atStart => exact ⟨0, none, 0, Nat.zero_le _, rfl, rfl, ⟨by simp [selK, flatW], Or.inl ⟨rfl, rfl⟩⟩, GS.out⟩
 case round =>
  obtain ⟨k, ad, q, hkl, rfl, rfl, hI⟩ := hrel
  clear GS
  by_cases hlt : k < l.length
  ·have hal := HK.out.1 (by omega)
   subst hal
   obtain ⟨c0, c1, c2, c3⟩ := HK.out.2 k hlt
   have hb := hI.out.2.1
   have d0 := (hb.cell (by exact cell_lt c0)).trans c0
   have d1 := (hb.cell (by exact cell_lt c1)).trans c1
   have d2 := (hb.cell (by exact cell_lt c2)).trans c2
   have d3 := (hb.cell (by exact cell_lt c3)).trans c3
   have SY := fun h1 h2 => selK_yes (l := l) (bs := bs) (k := k) h1 h2
   have SN := fun h => selK_no (l := l) (bs := bs) (k := k) h
   have hsl := selK_le l bs k
   clear c0 c1 c2 c3
   by_cases hkb : k < bs.length
   ·have hal' := HK'.out.1 (by omega)
    subst hal'
    have x0 := HK'.out.2 k hkb
    have y0 := (hb.cell (by exact cell_lt x0)).trans x0
    have bl : b' < wr.heap.size := Nat.lt_of_lt_of_le (cell_lt x0) hb.size
    have bn : ¬ b' = wr.heap.size := by omega
    have bm : ¬ wr.heap.size = b' := by omega
    clear x0 hb
    cases hbo : bOf bs k with
    | false =>
     have E := SN (by rw [hbo]; simp)
     rw [hbo] at y0
     have F : Hid ((wr.alloc (.cells #[.int .i64 (wA l k), .string (wT l k), .int .i64 (wV l k), .int .i64 (wR l k)] 35)).ownsRow w.heap.size 35 4 (.slice ad (selK l bs (k + 1)).length q) (selK l bs (k + 1)).length (flatW (selK l bs (k + 1))) ∧ Gd w (.cells #[vp, vs] 27) (.cells #[.slice none 0 0, .slice none 0 0] 27) (wr.alloc (.cells #[.int .i64 (wA l k), .string (wT l k), .int .i64 (wV l k), .int .i64 (wR l k)] 35))) := by rw [E]; exact ⟨owns_below hI.out.1 (bel_al (Below.refl _ _) _), Gd.al hI.out.2 _⟩
     have HE : Hid _ := E
     clear E SY SN hI
     go_wp2
     go_roundw
     case rel => exact ⟨k + 1, ad, q, by omega, by go_num, by rw [HE.out], F.out⟩
     case measure => simp [intOf]; omega
    | true =>
     have E := SY hkb hbo
     rw [hbo] at y0
     have HE : Hid _ := E
     have O1 : Hid ((wr.alloc (.cells #[.int .i64 (wA l k), .string (wT l k), .int .i64 (wV l k), .int .i64 (wR l k)] 35)).ownsRow w.heap.size 35 4 (.slice ad (selK l bs k).length q) (selK l bs k).length (flatW (selK l bs k)) ∧ Gd w (.cells #[vp, vs] 27) (.cells #[.slice none 0 0, .slice none 0 0] 27) (wr.alloc (.cells #[.int .i64 (wA l k), .string (wT l k), .int .i64 (wV l k), .int .i64 (wR l k)] 35))) := ⟨owns_below hI.out.1 (bel_al (Below.refl _ _) _), Gd.al hI.out.2 _⟩
     have HR : Hid _ := room_of (n := (selK l bs k).length) (bytes := 40) (by omega) (by decide)
     have HB : Hid (w.heap.size ≤ (wr.alloc (.cells #[.int .i64 (wA l k), .string (wT l k), .int .i64 (wV l k), .int .i64 (wR l k)] 35)).heap.size) := O1.out.2.1.size
     clear E SY SN hI
     go_wp2_with (at_builtin; refine app_one (wr.alloc (.cells #[.int .i64 (wA l k), .string (wT l k), .int .i64 (wV l k), .int .i64 (wR l k)] 35)) rfl _ _ 28 rfl w.heap.size 35 i0 _ 4 40 Try.underlying28 hi0 hz0 hz1 hz2 rfl (by decide) (.slice ad (selK l bs k).length q) (selK l bs k).length (flatW (selK l bs k)) rfl O1.out.1 [.int .i64 (wA l k), .string (wT l k), .int .i64 (wV l k), .int .i64 (wR l k)] (by rw [al_size]; rfl) rfl (four_one _ _ _ _) HR.out.1 HR.out.2 HB.out ?_)
     intro v' w' ho hc hbel
     have G' := O1.out.2.app O1.out.1 hc hbel
     rw [flatW_snoc, ← HE.out] at ho
     have hln : (selK l bs k).length + 1 = (selK l bs (k + 1)).length := by rw [HE.out]; simp
     rw [hln] at ho
     obtain ⟨ad', q', rfl⟩ := owns_val ho
     have F : Hid _ := And.intro ho G'
     clear ho hc hbel G' O1 HR HB hln y0 d0 d1 d2 d3
     go_wp2
     go_roundw
     case rel => exact ⟨k + 1, ad', q', by omega, by go_num, rfl, F.out⟩
     case measure => simp [intOf]; omega
   ·have E := SN (by simp [hkb])
    have F : Hid ((wr.alloc (.cells #[.int .i64 (wA l k), .string (wT l k), .int .i64 (wV l k), .int .i64 (wR l k)] 35)).ownsRow w.heap.size 35 4 (.slice ad (selK l bs (k + 1)).length q) (selK l bs (k + 1)).length (flatW (selK l bs (k + 1))) ∧ Gd w (.cells #[vp, vs] 27) (.cells #[.slice none 0 0, .slice none 0 0] 27) (wr.alloc (.cells #[.int .i64 (wA l k), .string (wT l k), .int .i64 (wV l k), .int .i64 (wR l k)] 35))) := by rw [E]; exact ⟨owns_below hI.out.1 (bel_al (Below.refl _ _) _), Gd.al hI.out.2 _⟩
    have HE : Hid _ := E
    clear E SY SN hI hb
    go_wp2
    go_roundw
    case rel => exact ⟨k + 1, ad, q, by omega, by go_num, by rw [HE.out], F.out⟩
    case measure => simp [intOf]; omega
  ·have hkk : k = l.length := by omega
   subst hkk
   have m0 : wr.cell? ⟨w.heap.size, 0, none⟩ = some vp := cell_of_cells hI.out.2.2.2.1
   have m1 : wr.cell? ⟨w.heap.size, 1, none⟩ = some vs := cell_of_cells hI.out.2.2.2.1
   have hln := selK_le l bs l.length
   have HA : Hid (∀ x ∈ selK l bs l.length, -9223372036854775808 ≤ x.1 ∧ x.1 ≤ 9223372036854775807) := fun x hx => hA x (selK_mem l bs l.length (Nat.le_refl _) x hx)
   clear hA HK HK'
   generalize hLL : selK l bs l.length = L at *
   have HL : Hid _ := hLL
   clear hLL
   go_wp2_with fail
   refine (implDo_any _ P S _ L wr (RD.out _ hI.out.2.1) (Row.of_owns hI.out.1) hP hS HA.out).mono ?_
   rintro e w1 ⟨v1, rfl, o1, b1⟩
   obtain ⟨a1, q1, a2, q2, hv⟩ := o1.shape'
   subst hv
   have G1 := Gd.below hI.out.2 b1
   have hR := G1.2.2.2
   have n0 : w1.cell? ⟨w.heap.size + 1, 0, none⟩ = some (.slice none 0 0) := cell_of_cells hR
   have n1 : w1.cell? ⟨w.heap.size + 1, 1, none⟩ = some (.slice none 0 0) := cell_of_cells hR
   have f0 : w1.frozen? ⟨w.heap.size + 1, 0, none⟩ = false := frozen_of_cells hR
   have f1 : w1.frozen? ⟨w.heap.size + 1, 1, none⟩ = false := frozen_of_cells hR
   have ch : Chg (fun g => g = w.heap.size + 1) w1 ((w1.setCell ⟨w.heap.size + 1, 0, none⟩ (.slice a1 (dkP P L).length q1)).setCell ⟨w.heap.size + 1, 1, none⟩ (.slice a2 (dkS S L).length q2)) := ((Chg.refl (fun g => g = w.heap.size + 1) _).setAt (w.heap.size + 1) 0 rfl _).setAt (w.heap.size + 1) 1 rfl _
   have F : Hid (DiskOwn ((w1.setCell ⟨w.heap.size + 1, 0, none⟩ (.slice a1 (dkP P L).length q1)).setCell ⟨w.heap.size + 1, 1, none⟩ (.slice a2 (dkS S L).length q2)) w.heap.size (.agg #[.slice a1 (dkP P L).length q1, .slice a2 (dkS S L).length q2]) (dkP P L) (dkS S L) ∧ Below w.heap.size w ((w1.setCell ⟨w.heap.size + 1, 0, none⟩ (.slice a1 (dkP P L).length q1)).setCell ⟨w.heap.size + 1, 1, none⟩ (.slice a2 (dkS S L).length q2))) :=
    ⟨(o1.chg ch (fun g hg => o1.ne hR hg)).mono (Gd.size hI.out.2), G1.1.trans (ch.below (fun g _ hg => by omega) G1.1.size)⟩
   clear o1 b1 G1 hR ch hI RD HA m0 m1
   go_wp2
   refine bodyPost_ret (v := .agg #[.slice a1 (dkP P L).length q1, .slice a2 (dkS S L).length q2]) (by simp [results, Try.results9, go_sem, n0, n1]) rfl ⟨_, rfl, by rw [HL.out]; exact F.out⟩
end
section
open Go.RowKit

theorem DiskE.shape'' {w : World} {base : Nat} {v : Value} {P : PgL} {S : SL} (h : DiskE w base v P S) : ∃ a1 q1 a2 q2, v = .agg #[.slice a1 P.length q1, .slice a2 S.length q2] := by
 obtain ⟨x, y, rfl, h1, h2⟩ := h
 obtain ⟨a1, q1, rfl⟩ := h1.slice
 obtain ⟨a2, q2, rfl⟩ := h2.slice
 exact ⟨a1, q1, a2, q2, rfl⟩

theorem specSome_any (v : Value) (P : PgL) (S : SL) (vl : Value) (l : List Wr) (vb : Value) (bs : List Bool) (w : World) (hd : DiskRow w v P S) (hl : Row w vl l.length (flatW l)) (hbs : Row w vb bs.length (flatL bs)) (hP : P.length ≤ 1048576) (hS : S.length ≤ 1048576) (hL : l.length ≤ 1048576)
  (hA : ∀ x ∈ l, -9223372036854775808 ≤ x.1 ∧ x.1 ≤ 9223372036854775807) :
  Calls Try.prog 10 #[v, vl, vb] w fun e w' => ∃ v', e = .returned v' ∧ DiskE w' w.heap.size v' (dkP P (selK l bs l.length)) (dkS S (selK l bs l.length)) ∧ Below w.heap.size w w' := by
 obtain ⟨vp, vs, rfl, r1, r2⟩ := hd
 obtain ⟨a, b, off, cap, rfl, hcap, hmax, ha, hk⟩ := hl.writs
 obtain ⟨a', b', off', cap', rfl, hcap', hmax', ha', hk'⟩ := hbs.bools
 obtain ⟨i0, hi0, hz0, hz1, hz2⟩ := info_parts Try.info35
 unfold maxLen at hmax hmax'
 have HK : Hid _ := And.intro ha hk
 have HK' : Hid _ := And.intro ha' hk'
 have RD : Hid (∀ u, Below w.heap.size w u → DiskRow u (.agg #[vp, vs]) P S) := fun u hu => ⟨vp, vs, rfl, r1.below hu, r2.below hu⟩
 have GS : Hid (Gd w (.cells #[vp, vs] 27) (.cells #[.slice none 0 0, .slice none 0 0] 27) ((w.alloc (.cells #[vp, vs] 27)).alloc (.cells #[.slice none 0 0, .slice none 0 0] 27))) := Gd.start w _ _
 have OS : Hid ((((w.alloc (.cells #[vp, vs] 27)).alloc (.cells #[.slice none 0 0, .slice none 0 0] 27)).alloc (.cells #[] 35)).ownsRow w.heap.size 35 4 (.slice (some ⟨w.heap.size + 1 + 1, 0, none⟩) 0 0) 0 []) := by
  have := empty_own ((w.alloc (.cells #[vp, vs] 27)).alloc (.cells #[.slice none 0 0, .slice none 0 0] 27)) w.heap.size 35 4 (Gd.size GS.out)
  rw [al_size, al_size] at this
  exact this
 clear hl hbs r1 r2 ha hk ha' hk'
 go_enter Try.func10, Try.ntmps10
 go_wp2
 go_loopw [7, 8] (fun s i wr => ∃ (k : Nat) (ad : Option Addr) (q : Nat), k ≤ l.length ∧ k ≤ bs.length ∧ i = .int .i64 k ∧ s = .slice ad (selK l bs k).length q ∧ Hid (wr.ownsRow w.heap.size 35 4 (.slice ad (selK l bs k).length q) (selK l bs k).length (flatW (selK l bs k)) ∧ Gd w (.cells #[vp, vs] 27) (.cells #[.slice none 0 0, .slice none 0 0] 27) wr)) (fun _ i _ => l.length - (intOf i).toNat)
 case atStart => exact ⟨0, _, 0, Nat.zero_le _, Nat.zero_le _, rfl, rfl, OS.out, Gd.al GS.out _⟩
 case round =>
  obtain ⟨k, ad, q, hkl, hkb0, rfl, rfl, hI⟩ := hrel
  clear GS OS
  by_cases hlt : k < l.length ∧ k < bs.length
  ·obtain ⟨hlt, hkb⟩ := hlt
   have hal := HK.out.1 (by omega)
   subst hal
   obtain ⟨c0, c1, c2, c3⟩ := HK.out.2 k hlt
   have hb := hI.out.2.1
   have d0 := (hb.cell (by exact cell_lt c0)).trans c0
   have d1 := (hb.cell (by exact cell_lt c1)).trans c1
   have d2 := (hb.cell (by exact cell_lt c2)).trans c2
   have d3 := (hb.cell (by exact cell_lt c3)).trans c3
   have SY := fun h2 => selK_yes (l := l) (bs := bs) (k := k) hkb h2
   have SN := fun h => selK_no (l := l) (bs := bs) (k := k) h
   have hsl := selK_le l bs k
   have hal' := HK'.out.1 (by omega)
   subst hal'
   have x0 := HK'.out.2 k hkb
   have y0 := (hb.cell (by exact cell_lt x0)).trans x0
   clear x0 hb c0 c1 c2 c3
   cases hbo : bOf bs k with
   | false =>
    have E := SN (by rw [hbo]; simp)
    rw [hbo] at y0
    have F : Hid (wr.ownsRow w.heap.size 35 4 (.slice ad (selK l bs (k + 1)).length q) (selK l bs (k + 1)).length (flatW (selK l bs (k + 1))) ∧ Gd w (.cells #[vp, vs] 27) (.cells #[.slice none 0 0, .slice none 0 0] 27) wr) := by rw [E]; exact hI.out
    have HE : Hid _ := E
    clear E SY SN hI
    go_wp2
    go_roundw
    case rel => exact ⟨k + 1, ad, q, by omega, by omega, by go_num, by rw [HE.out], F.out⟩
    case measure => simp [intOf]; omega
   | true =>
    have E := SY hbo
    rw [hbo] at y0
    have HE : Hid _ := E
    have HR : Hid _ := room_of (n := (selK l bs k).length) (bytes := 40) (by omega) (by decide)
    have HB : Hid (w.heap.size ≤ wr.heap.size) := hI.out.2.1.size
    clear E SY SN
    go_wp2_with (at_builtin; refine app_one wr rfl _ _ 28 rfl w.heap.size 35 i0 _ 4 40 Try.underlying28 hi0 hz0 hz1 hz2 rfl (by decide) (.slice ad (selK l bs k).length q) (selK l bs k).length (flatW (selK l bs k)) rfl hI.out.1 [.int .i64 (wA l k), .string (wT l k), .int .i64 (wV l k), .int .i64 (wR l k)] rfl rfl (four_one _ _ _ _) HR.out.1 HR.out.2 HB.out ?_)
    intro v' w' ho hc hbel
    have G' := Gd.app hI.out.2 hI.out.1 hc hbel
    rw [flatW_snoc, ← HE.out] at ho
    have hln : (selK l bs k).length + 1 = (selK l bs (k + 1)).length := by rw [HE.out]; simp
    rw [hln] at ho
    obtain ⟨ad', q', rfl⟩ := owns_val ho
    have F : Hid _ := And.intro ho G'
    clear ho hc hbel G' hI HR HB hln y0 d0 d1 d2 d3
    go_wp2
    go_roundw
    case rel => exact ⟨k + 1, ad', q', by omega, by omega, by go_num, rfl, F.out⟩
    case measure => simp [intOf]; omega
  ·have hke : selK l bs k = selK l bs l.length := by
    by_cases h1 : k = l.length
    ·rw [h1]
    ·have h2 : k = bs.length := by omega
     obtain ⟨j, hj⟩ : ∃ j, l.length = bs.length + j := ⟨l.length - bs.length, by omega⟩
     rw [hj, selK_stop, h2]
   have m0 : wr.cell? ⟨w.heap.size, 0, none⟩ = some vp := cell_of_cells hI.out.2.2.2.1
   have m1 : wr.cell? ⟨w.heap.size, 1, none⟩ = some vs := cell_of_cells hI.out.2.2.2.1
   have hln := selK_le l bs l.length
   have HA : Hid (∀ x ∈ selK l bs l.length, -9223372036854775808 ≤ x.1 ∧ x.1 ≤ 9223372036854775807) := fun x hx => hA x (selK_mem l bs l.length (Nat.le_refl _) x hx)
   rw [hke] at hI ⊢
   clear hA HK HK' hke
   generalize hLL : selK l bs l.length = L at *
   have HL : Hid _ := hLL
   clear hLL
   have STEP : Hid (Calls Try.prog 7 #[.agg #[vp, vs], .slice ad L.length q] wr fun e w' => ∃ v', e = .returned v' ∧ DiskE w' wr.heap.size v' (dkP P L) (dkS S L) ∧ Below wr.heap.size wr w') := specDo_any _ P S _ L wr (RD.out _ hI.out.2.1) (Row.of_owns hI.out.1) hP hS HA.out
   by_cases hk1 : k < l.length
   ·have hk2 : ¬ k < bs.length := fun h => hlt ⟨hk1, h⟩
    clear hlt
    go_wp2_with fail
    refine STEP.out.mono ?_
    rintro e w1 ⟨v1, rfl, o1, b1⟩
    obtain ⟨a1, q1, a2, q2, hv⟩ := o1.shape''
    subst hv
    have G1 := Gd.below hI.out.2 b1
    have hR := G1.2.2.2
    have n0 : w1.cell? ⟨w.heap.size + 1, 0, none⟩ = some (.slice none 0 0) := cell_of_cells hR
    have n1 : w1.cell? ⟨w.heap.size + 1, 1, none⟩ = some (.slice none 0 0) := cell_of_cells hR
    have f0 : w1.frozen? ⟨w.heap.size + 1, 0, none⟩ = false := frozen_of_cells hR
    have f1 : w1.frozen? ⟨w.heap.size + 1, 1, none⟩ = false := frozen_of_cells hR
    have ch : Chg (fun g => g = w.heap.size + 1) w1 ((w1.setCell ⟨w.heap.size + 1, 0, none⟩ (.slice a1 (dkP P L).length q1)).setCell ⟨w.heap.size + 1, 1, none⟩ (.slice a2 (dkS S L).length q2)) := ((Chg.refl (fun g => g = w.heap.size + 1) _).setAt (w.heap.size + 1) 0 rfl _).setAt (w.heap.size + 1) 1 rfl _
    have F : Hid (DiskE ((w1.setCell ⟨w.heap.size + 1, 0, none⟩ (.slice a1 (dkP P L).length q1)).setCell ⟨w.heap.size + 1, 1, none⟩ (.slice a2 (dkS S L).length q2)) w.heap.size (.agg #[.slice a1 (dkP P L).length q1, .slice a2 (dkS S L).length q2]) (dkP P L) (dkS S L) ∧ Below w.heap.size w ((w1.setCell ⟨w.heap.size + 1, 0, none⟩ (.slice a1 (dkP P L).length q1)).setCell ⟨w.heap.size + 1, 1, none⟩ (.slice a2 (dkS S L).length q2))) := by
     obtain ⟨x, y, e, e1, e2⟩ := o1
     simp at e
     obtain ⟨rfl, rfl⟩ := e
     exact ⟨⟨_, _, rfl, (e1.mono (Gd.size hI.out.2)).chg ch (fun g hg => ownE_ne e1 hR (by decide) hg), (e2.mono (Gd.size hI.out.2)).chg ch (fun g hg => ownE_ne e2 hR (by decide) hg)⟩, G1.1.trans (ch.below (fun g _ hg => by omega) G1.1.size)⟩
    clear o1 b1 G1 hR ch hI RD HA m0 m1 STEP
    go_wp2
    refine bodyPost_ret (v := .agg #[.slice a1 (dkP P L).length q1, .slice a2 (dkS S L).length q2]) (by simp [results, Try.results10, go_sem, n0, n1]) rfl ⟨_, rfl, by rw [HL.out]; exact F.out⟩
   ·clear hlt
    go_wp2_with fail
    refine STEP.out.mono ?_
    rintro e w1 ⟨v1, rfl, o1, b1⟩
    obtain ⟨a1, q1, a2, q2, hv⟩ := o1.shape''
    subst hv
    have G1 := Gd.below hI.out.2 b1
    have hR := G1.2.2.2
    have n0 : w1.cell? ⟨w.heap.size + 1, 0, none⟩ = some (.slice none 0 0) := cell_of_cells hR
    have n1 : w1.cell? ⟨w.heap.size + 1, 1, none⟩ = some (.slice none 0 0) := cell_of_cells hR
    have f0 : w1.frozen? ⟨w.heap.size + 1, 0, none⟩ = false := frozen_of_cells hR
    have f1 : w1.frozen? ⟨w.heap.size + 1, 1, none⟩ = false := frozen_of_cells hR
    have ch : Chg (fun g => g = w.heap.size + 1) w1 ((w1.setCell ⟨w.heap.size + 1, 0, none⟩ (.slice a1 (dkP P L).length q1)).setCell ⟨w.heap.size + 1, 1, none⟩ (.slice a2 (dkS S L).length q2)) := ((Chg.refl (fun g => g = w.heap.size + 1) _).setAt (w.heap.size + 1) 0 rfl _).setAt (w.heap.size + 1) 1 rfl _
    have F : Hid (DiskE ((w1.setCell ⟨w.heap.size + 1, 0, none⟩ (.slice a1 (dkP P L).length q1)).setCell ⟨w.heap.size + 1, 1, none⟩ (.slice a2 (dkS S L).length q2)) w.heap.size (.agg #[.slice a1 (dkP P L).length q1, .slice a2 (dkS S L).length q2]) (dkP P L) (dkS S L) ∧ Below w.heap.size w ((w1.setCell ⟨w.heap.size + 1, 0, none⟩ (.slice a1 (dkP P L).length q1)).setCell ⟨w.heap.size + 1, 1, none⟩ (.slice a2 (dkS S L).length q2))) := by
     obtain ⟨x, y, e, e1, e2⟩ := o1
     simp at e
     obtain ⟨rfl, rfl⟩ := e
     exact ⟨⟨_, _, rfl, (e1.mono (Gd.size hI.out.2)).chg ch (fun g hg => ownE_ne e1 hR (by decide) hg), (e2.mono (Gd.size hI.out.2)).chg ch (fun g hg => ownE_ne e2 hR (by decide) hg)⟩, G1.1.trans (ch.below (fun g _ hg => by omega) G1.1.size)⟩
    clear o1 b1 G1 hR ch hI RD HA m0 m1 STEP
    go_wp2
    refine bodyPost_ret (v := .agg #[.slice a1 (dkP P L).length q1, .slice a2 (dkS S L).length q2]) (by simp [results, Try.results10, go_sem, n0, n1]) rfl ⟨_, rfl, by rw [HL.out]; exact F.out⟩
end
section
def codeN (x : Int) : Int := if x < 0 then -2 * x - 1 else 2 * x
def sevens : Nat → Int → List Int
 | 0, n => [n]
 | f + 1, n => if 127 < n then (n % 128 + 128) :: sevens f (n / 128) else [n]
def putN (x : Int) : List Int := if -2000000000 ≤ x ∧ x ≤ 2000000000 then sevens 4 (codeN x) else []
def topN : Nat → Int
 | 0 => 128
 | k + 1 => 128 * topN k

theorem sevens_stop (f : Nat) {n : Int} (h : ¬ 127 < n) : sevens f n = [n] := by cases f <;> simp [sevens, h]
theorem sevens_go (f : Nat) {n : Int} (h : 127 < n) : sevens (f + 1) n = (n % 128 + 128) :: sevens f (n / 128) := by simp [sevens, h]
theorem sevens_length (f : Nat) (n : Int) : (sevens f n).length ≤ f + 1 := by
 induction f generalizing n with
 | zero => simp [sevens]
 | succ f ih =>
  rw [sevens]
  split
  ·have := ih (n / 128); simp; omega
  ·simp
theorem sevens_pos (f : Nat) (n : Int) : 0 < (sevens f n).length := by cases f <;> simp [sevens]; split <;> simp
theorem sevens_byte (f : Nat) : ∀ n : Int, 0 ≤ n → n < topN f → ∀ b ∈ sevens f n, 0 ≤ b ∧ b ≤ 255 := by
 induction f with
 | zero => intro n h0 h1 b hb; simp [sevens] at hb; simp [topN] at h1; omega
 | succ f ih =>
  intro n h0 h1 b hb
  rw [sevens] at hb
  split at hb
  ·rcases List.mem_cons.1 hb with rfl | hb
   ·omega
   ·exact ih (n / 128) (by omega) (by rw [topN] at h1; omega) b hb
  ·simp at hb; omega
theorem putN_in {x : Int} (h1 : -2000000000 ≤ x) (h2 : x ≤ 2000000000) : putN x = sevens 4 (codeN x) := by simp [putN, h1, h2]
theorem putN_out {x : Int} (h : ¬ (-2000000000 ≤ x ∧ x ≤ 2000000000)) : putN x = [] := by simp only [putN, if_neg h]
theorem putN_length (x : Int) : (putN x).length ≤ 5 := by
 unfold putN; split
 ·exact sevens_length 4 _
 ·simp
theorem codeN_in {x : Int} (h1 : -2000000000 ≤ x) (h2 : x ≤ 2000000000) : 0 ≤ codeN x ∧ codeN x ≤ 4000000000 := by unfold codeN; split <;> omega
theorem putN_byte (x : Int) : ∀ b ∈ putN x, 0 ≤ b ∧ b ≤ 255 := by
 intro b hb
 by_cases h : -2000000000 ≤ x ∧ x ≤ 2000000000
 ·rw [putN_in h.1 h.2] at hb
  have := codeN_in h.1 h.2
  exact sevens_byte 4 _ this.1 (by simp [topN]; omega) b hb
 ·rw [putN_out h] at hb; cases hb

structure Formed (x : Int) (done : List Int) (k : Nat) (m : Int) : Prop where
 room : done.length + k = 4
 low : 0 ≤ m
 high : m ≤ 4000000000
 top : m < topN k
 all : done ++ sevens k m = sevens 4 (codeN x)
theorem Formed.start {x : Int} (h1 : -2000000000 ≤ x) (h2 : x ≤ 2000000000) : Formed x [] 4 (codeN x) :=
 ⟨rfl, (codeN_in h1 h2).1, (codeN_in h1 h2).2, by have := (codeN_in h1 h2).2; simp [topN]; omega, rfl⟩
theorem Formed.step {x : Int} {done : List Int} {k : Nat} {m : Int} (h : Formed x done k m) (hm : 127 < m) : ∃ k', k = k' + 1 ∧ Formed x (done ++ [m % 128 + 128]) k' (m / 128) := by
 obtain ⟨h1, h2, h3, h4, h5⟩ := h
 cases k with
 | zero => simp [topN] at h4; omega
 | succ k =>
  refine ⟨k, rfl, ?_, by omega, by omega, by rw [topN] at h4; omega, ?_⟩
  ·simp; omega
  ·rw [sevens_go k hm] at h5
   rw [← h5]; simp
theorem Formed.stop {x : Int} {done : List Int} {k : Nat} {m : Int} (h : Formed x done k m) (hm : ¬ 127 < m) : done ++ [m] = sevens 4 (codeN x) := by
 rw [← h.all, sevens_stop k hm]
end
section
open Go.RowKit

theorem Try.infoByte : (Try.prog.info? 5).map (fun i => (i.zero, i.size, i.bytes)) = some (some (.int .u8 0), 1, 1) := by kernel_rfl
def flatB (l : List Int) : List Value := l.map (Value.int .u8)
theorem flatB_length (l : List Int) : (flatB l).length = l.length := by simp [flatB]
theorem flatB_append (l m : List Int) : flatB (l ++ m) = flatB l ++ flatB m := by simp [flatB]
theorem flatB_snoc (l : List Int) (x : Int) : flatB l ++ [.int .u8 x] = flatB (l ++ [x]) := by simp [flatB]
theorem flatB_one (l : List Int) : ∀ y ∈ flatB l, y.oneCell' = true := by
 intro v hv
 obtain ⟨z, _, rfl⟩ := List.mem_map.1 hv
 rfl
theorem one_one (x : Int) : ∀ u ∈ [Value.int .u8 x], u.oneCell' = true := by intro u hu; simp at hu; subst hu; rfl
def byOf (l : List Int) (i : Nat) : Int := l.getD i 0
theorem flatB_at (l : List Int) (i : Nat) (h : i < l.length) : (flatB l)[i]? = some (.int .u8 (byOf l i)) := by
 simp [flatB, byOf, List.getD, h]
def inByte (l : List Int) : Prop := ∀ b ∈ l, 0 ≤ b ∧ b ≤ 255
theorem inByte.at {l : List Int} (h : inByte l) (i : Nat) : 0 ≤ byOf l i ∧ byOf l i ≤ 255 := by
 by_cases hi : i < l.length
 ·have := h (l[i]) (List.getElem_mem hi)
  simpa [byOf, List.getD, hi] using this
 ·simp [byOf, List.getD, List.getElem?_eq_none (Nat.le_of_not_lt hi)]
theorem Row.bytes {w : World} {v : Value} {l : List Int} (h : Row w v l.length (flatB l)) :
  ∃ (a : Option Addr) (b off cap : Nat), v = .slice a l.length cap ∧ l.length ≤ cap ∧ cap ≤ maxLen ∧ (0 < l.length → a = some ⟨b, off, none⟩) ∧
   (∀ i, i < l.length → w.cell? ⟨b, off + i, none⟩ = some (.int .u8 (byOf l i))) := by
 obtain ⟨a, b, off, cap, h1, h2, h3, h4, h5, _⟩ := h
 exact ⟨a, b, off, cap, h1, h2, h3, h4, fun i hi => h5 _ _ (flatB_at l i hi)⟩
end
section
open Go.RowKit

theorem owns_shape {w : World} {base e size n : Nat} {v : Value} {xs : List Value} (h : w.ownsRow base e size v n xs) : ∃ (a : Option Addr) (cap : Nat), v = .slice a n cap ∧ n ≤ cap ∧ cap ≤ maxLen := by
 obtain ⟨_, ⟨e, hn⟩ | ⟨g, cap', cur, e, _, _, hn, hc, _⟩⟩ := h
 ·exact ⟨none, 0, by rw [e, hn], by omega, Nat.zero_le _⟩
 ·exact ⟨_, _, e, hn, hc⟩

def markB (k : Int) (i : Nat) : Int := IntKind.u8.wrap (k + i)
def marksB (k : Int) (n : Nat) : List Int := (List.range n).map (markB k)
def midB (k : Int) (l : List Int) (i : Nat) : List Int := marksB k i ++ l.drop i
end
end Go.Proofs.Ytekcnibohikmdaa
