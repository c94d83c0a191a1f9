/-
  The model's Do.
-/
import Derived.Test.YtmpngehhojlmmaaDskC
namespace Go.Proofs.Ytmpngehhojlmmaa
open Go.RowKit

set_option maxHeartbeats 400000 in
theorem l1In_any (x lo hi : Int) (w : World) :
    Calls Try.prog 30 #[.int .i64 x, .int .i64 lo, .int .i64 hi] w fun e w' => e = .returned (.bool (inB x lo hi)) ∧ w' = w := by
  by_cases h1 : lo ≤ x
  · by_cases h2 : x ≤ hi
    · have E : Hid (inB x lo hi = true) := inB_true h1 h2
      go_enter Try.func30, Try.ntmps30
      go_wp2
      go_ret
      exact ⟨ret_bool E.out.symm, rfl⟩
    · have E : Hid (inB x lo hi = false) := inB_false2 h2
      go_enter Try.func30, Try.ntmps30
      go_wp2
      go_ret
      exact ⟨ret_bool E.out.symm, rfl⟩
  · have E : Hid (inB x lo hi = false) := inB_false1 h1
    go_enter Try.func30, Try.ntmps30
    go_wp2
    go_ret
    exact ⟨ret_bool E.out.symm, rfl⟩

theorem wA_bound' {l : List Wr} (h : ∀ x ∈ l, -9223372036854775808 ≤ x.1 ∧ x.1 ≤ 9223372036854775807) {k : Nat} (hk : k < l.length) : -9223372036854775808 ≤ wA l k ∧ wA l k ≤ 9223372036854775807 := by
  have := h l[k] (by simp)
  simpa [wA, List.getD, hk] using this
theorem OwnE.own {w : World} {base e size n : Nat} {v : Value} {xs : List Value} (h : OwnE w base e size v n xs) (hn : 0 < n) : w.ownsRow base e size v n xs := by
  rcases h with h | ⟨h, _⟩
  · exact h
  · omega
theorem Gd.size {w : World} {A B : Obj} {u : World} (h : Gd w A B u) : w.heap.size ≤ u.heap.size := h.1.size
/-- the state of the loop: the struct in its block, the answer's block, the rows -/
def StD (w : World) (B : Nat) (s1 s2 : Value) (P : PL) (S : SL) (wr : World) : Prop := wr.heap[B]? = some (.cells #[s1, s2] 27) ∧ wr.heap[w.heap.size + 1]? = some (.cells #[.slice none 0 0, .slice none 0 0] 27) ∧ OwnE wr w.heap.size 9 1 s1 P.length (flatS P) ∧ OwnE wr w.heap.size 33 2 s2 S.length (flatP S) ∧ Below w.heap.size w wr
theorem StD.below {w : World} {B : Nat} {s1 s2 : Value} {P : PL} {S : SL} {wr wr' : World} (h : StD w B s1 s2 P S wr) (hb : Below wr.heap.size wr wr') : StD w B s1 s2 P S wr' := by
  obtain ⟨h1, h2, h3, h4, h5⟩ := h
  exact ⟨(hb.block _ (Array.getElem?_eq_some_iff.1 h1).1).trans h1, (hb.block _ (Array.getElem?_eq_some_iff.1 h2).1).trans h2, h3.below hb, h4.below hb, Below.and h5 hb⟩
theorem wrB_own {v : Value} {g : Nat} (h : wrB v g) : v.ownBlock = some g := by
  obtain ⟨n, c, rfl, _⟩ := h
  rfl
/-- a page is written -/
theorem StD.page {w : World} {B : Nat} {s1 s2 : Value} {P : PL} {S : SL} {wr : World} (h : StD w B s1 s2 P S wr) (a : Int) (t : ByteArray) (h0 : 0 ≤ a) (h1 : a < P.length) :
    ∃ g q, s1 = .slice (some ⟨g, 0, none⟩) P.length q ∧ g < wr.heap.size ∧ (∃ u, wr.cell? ⟨g, a.toNat, none⟩ = some (.string u)) ∧ wr.frozen? ⟨g, a.toNat, none⟩ = false ∧ P.length ≤ q ∧ q ≤ maxLen ∧ g ≠ B ∧
      StD w B s1 s2 (stepP P a t) S (wr.setCell ⟨g, a.toNat, none⟩ (.string t)) := by
  obtain ⟨h2, h3, h4, h5, h6⟩ := h
  have o := h4.own (by omega)
  obtain ⟨g, q, e, hg, hc, hf, st, hob, hn, hq⟩ := own_page o a t h0 h1
  have ch : Chg (fun g' => g' = g) wr (wr.setCell ⟨g, a.toNat, none⟩ (.string t)) := (Chg.refl (fun g' => g' = g) _).setAt g _ rfl _
  have nB : ¬ B = g := fun hh => by
    obtain ⟨_, c1, e1⟩ := owns_lt o hob
    rw [← hh, h2] at e1
    simp at e1
  have nR : ¬ w.heap.size + 1 = g := fun hh => by
    obtain ⟨_, c1, e1⟩ := owns_lt o hob
    rw [← hh, h3] at e1
    simp at e1
  refine ⟨g, q, e, (o.lt g hob).2, hc, hf, hn, hq, fun hh => nB hh.symm, (ch.block _ (Array.getElem?_eq_some_iff.1 h2).1 nB).trans h2, (ch.block _ (Array.getElem?_eq_some_iff.1 h3).1 nR).trans h3, ?_, ?_, h6.setCell (p := ⟨g, a.toNat, none⟩) hg _⟩
  · rw [stepP_length]; exact .inl st
  · refine h5.chg ch (fun g' hg' e' => ?_)
    subst e'
    obtain ⟨n, c, rfl, hc'⟩ := hg'
    rcases h5 with h5 | ⟨_, _, g2, h7⟩
    · exact blk_ne o h5 hob rfl
    · simp at h7; omega
/-- a super is written -/
theorem StD.super {w : World} {B : Nat} {s1 s2 : Value} {P : PL} {S : SL} {wr : World} (h : StD w B s1 s2 P S wr) (a b c : Int) (h0 : 0 ≤ -1 - a) (h1 : -1 - a < min 2 (S.length : Int)) :
    ∃ g q, s2 = .slice (some ⟨g, 0, none⟩) S.length q ∧ g < wr.heap.size ∧ (∃ x y, wr.cell? ⟨g, (-1 - a).toNat * 2, none⟩ = some (.int .i64 x) ∧ wr.cell? ⟨g, (-1 - a).toNat * 2 + 1, none⟩ = some (.int .i64 y)) ∧ wr.frozen? ⟨g, (-1 - a).toNat * 2, none⟩ = false ∧ wr.frozen? ⟨g, (-1 - a).toNat * 2 + 1, none⟩ = false ∧ S.length ≤ q ∧ q ≤ maxLen ∧
      StD w B s1 s2 P (stepS S a b c) ((wr.setCell ⟨g, (-1 - a).toNat * 2, none⟩ (.int .i64 b)).setCell ⟨g, (-1 - a).toNat * 2 + 1, none⟩ (.int .i64 c)) := by
  obtain ⟨h2, h3, h4, h5, h6⟩ := h
  have o := h5.own (by omega)
  obtain ⟨g, q, e, hg, hc, hf, hf2, st, hob, hn, hq⟩ := own_super o a b c h0 h1
  have ch : Chg (fun g' => g' = g) wr ((wr.setCell ⟨g, (-1 - a).toNat * 2, none⟩ (.int .i64 b)).setCell ⟨g, (-1 - a).toNat * 2 + 1, none⟩ (.int .i64 c)) := ((Chg.refl (fun g' => g' = g) _).setAt g _ rfl _).setAt g _ rfl _
  have nB : ¬ B = g := fun hh => by
    obtain ⟨_, c1, e1⟩ := owns_lt o hob
    rw [← hh, h2] at e1
    simp at e1
  have nR : ¬ w.heap.size + 1 = g := fun hh => by
    obtain ⟨_, c1, e1⟩ := owns_lt o hob
    rw [← hh, h3] at e1
    simp at e1
  refine ⟨g, q, e, (o.lt g hob).2, hc, hf, hf2, hn, hq, (ch.block _ (Array.getElem?_eq_some_iff.1 h2).1 nB).trans h2, (ch.block _ (Array.getElem?_eq_some_iff.1 h3).1 nR).trans h3, ?_, ?_, (h6.setCell (p := ⟨g, (-1 - a).toNat * 2, none⟩) hg _).setCell (p := ⟨g, (-1 - a).toNat * 2 + 1, none⟩) hg _⟩
  · refine h4.chg ch (fun g' hg' e' => ?_)
    subst e'
    obtain ⟨n, c, rfl, hc'⟩ := hg'
    rcases h4 with h4 | ⟨_, _, g2, h7⟩
    · exact blk_ne h4 o rfl hob
    · simp at h7; omega
  · rw [stepS_length]; exact .inl st

set_option maxRecDepth 100000 in
set_option maxHeartbeats 1000000 in
theorem specDo_any (v : Value) (P : PL) (S : SL) (vl : Value) (l : List Wr) (w : World) (hd : DiskRow w v P S) (hl : Row w vl l.length (flatW l)) (hP : P.length ≤ 1048576) (hS : S.length ≤ 1048576)
    (hA : ∀ x ∈ l, -9223372036854775808 ≤ x.1 ∧ x.1 ≤ 9223372036854775807) :
    Calls Try.prog 9 #[v, vl] w fun e w' => ∃ v', e = .returned v' ∧ DiskE w' w.heap.size v' (doP P l) (doS S l) ∧ Below w.heap.size w w' := by
  obtain ⟨vp, vs, rfl, r1, r2⟩ := hd
  obtain ⟨a, b, off, cap, rfl, hcap, hmax, ha, hk⟩ := hl.writs
  unfold maxLen at hmax
  have HK : Hid _ := And.intro ha hk
  have GS : Hid (Gd w (.cells #[vp, vs] 27) (.cells #[.slice none 0 0, .slice none 0 0] 27) ((w.alloc (.cells #[vp, vs] 27)).alloc (.cells #[.slice none 0 0, .slice none 0 0] 27))) := Gd.start w _ _
  have RD : Hid (∀ u, Below w.heap.size w u → DiskRow u (.agg #[vp, vs]) P S) := fun u hu => ⟨vp, vs, rfl, r1.below hu, r2.below hu⟩
  clear hl r1 r2 ha hk
  go_enter Try.func9, Try.ntmps9
  go_wp2_with fail
  refine (l6Copy_any _ P S _ (RD.out _ GS.out.1) hP hS).mono ?_
  rintro e w1 ⟨v1, rfl, ⟨s1, s2, rfl, o1, o2⟩, b1⟩
  have G1 := Gd.below GS.out b1
  have st : StD w w1.heap.size s1 s2 P S (w1.alloc (.cells #[s1, s2] 27)) := ⟨heap_alloc_new _ _, (G1.al _).2.2.2, (o1.mono (Gd.size GS.out)).below (bel_al (Below.refl _ _) _), (o2.mono (Gd.size GS.out)).below (bel_al (Below.refl _ _) _), (G1.al _).1⟩
  obtain ⟨a1, q1, rfl⟩ := o1.slice
  obtain ⟨a2, q2, rfl⟩ := o2.slice
  have I0 : Hid _ := And.intro st G1.2.1
  clear o1 o2 b1 G1 st GS RD
  go_wp2
  go_loopw [6] (fun i wr => ∃ k : Nat, k ≤ l.length ∧ i = .int .i64 k ∧ Hid (StD w w1.heap.size (.slice a1 P.length q1) (.slice a2 S.length q2) (doP P (l.take k)) (doS S (l.take k)) wr)) (fun i _ => l.length - (intOf i).toNat)
  case atStart => exact ⟨0, Nat.zero_le _, rfl, I0.out.1⟩
  case round =>
    obtain ⟨k, hkl, rfl, hI⟩ := hrel
    have st := hI.out
    obtain ⟨hB, hR, _, _, hbel⟩ := hI.out
    generalize w1.heap.size = B at *
    have m0 : wr.cell? ⟨B, 0, none⟩ = some (.slice a1 P.length q1) := cell_of_cells hB
    have m1 : wr.cell? ⟨B, 1, none⟩ = some (.slice a2 S.length q2) := cell_of_cells hB
    have hBl : B < wr.heap.size := (Array.getElem?_eq_some_iff.1 hB).1
    have hBn : ¬ B = wr.heap.size := by omega
    have hBm : ¬ wr.heap.size = B := by omega
    clear hI I0
    by_cases hlt' : k < l.length
    · have hal := HK.out.1 (by omega)
      subst hal
      obtain ⟨c0, c1, c2, c3⟩ := HK.out.2 k hlt'
      have d0 := (hbel.cell (by exact cell_lt c0)).trans c0
      have d1 := (hbel.cell (by exact cell_lt c1)).trans c1
      have d2 := (hbel.cell (by exact cell_lt c2)).trans c2
      have d3 := (hbel.cell (by exact cell_lt c3)).trans c3
      have hab := wA_bound' hA hlt'
      have NP := doP_next l P k hlt'
      have NS := doS_next l S k hlt'
      have hQ := doP_length (l.take k) P
      have hX := doS_length (l.take k) S
      clear c0 c1 c2 c3 hB hR hbel HK
      generalize doP P (l.take k) = Q at *
      generalize doS S (l.take k) = X at *
      generalize wA l k = A at *
      generalize wT l k = T at *
      generalize wV l k = V at *
      generalize wR l k = R at *
      have sW := st.below (bel_al (w := wr) (Below.refl _ _) (.cells #[.int .i64 A, .string T, .int .i64 V, .int .i64 R] 35))
      by_cases ha : 0 ≤ A
      · have hSS : stepS X A V R = X := by unfold stepS; rw [if_neg (by omega)]
        rw [hSS] at NS
        by_cases hp : A < Q.length
        · obtain ⟨n, rfl⟩ := Int.eq_ofNat_of_zero_le ha
          obtain ⟨g, q, e, hgl, ⟨u, hc⟩, hf, hn, hq, hgB, s2⟩ := st.page n T ha hp
          injection e with e1 e2 e3
          subst e1 e3
          rw [Int.toNat_natCast] at hc hf s2
          have hin : inB (n : Int) 0 ((P.length : Int) - 1) = true := inB_true (by omega) (by omega)
          have hg3 : ¬ wr.heap.size = g := by omega
          have hg4 : ¬ g = wr.heap.size := by omega
          have hg5 : ¬ B = g := fun h => hgB h.symm
          have hnP : n < P.length := by omega
          have F : Hid (StD w B (.slice (some ⟨g, 0, none⟩) P.length q1) (.slice a2 S.length q2) (doP P (l.take (k + 1))) (doS S (l.take (k + 1))) ((wr.setCell ⟨g, n, none⟩ (.string T)).alloc (.cells #[.int .i64 n, .string T, .int .i64 V, .int .i64 R] 35))) := by
            rw [NP, NS]; exact s2.below (bel_al (Below.refl _ _) _)
          unfold maxLen at hq
          clear NP NS s2 st sW hSS e2 hp
          go_wp2_with fail
          refine (l1In_any _ _ _ _).mono ?_
          rintro e w2 ⟨rfl, hw⟩
          subst hw
          rw [hin]
          go_wp2
          go_roundw
          case rel => exact ⟨k + 1, by omega, by go_num, F.out⟩
          case measure => simp [intOf]; omega
        · have hSP : stepP Q A T = Q := by unfold stepP; rw [if_neg (by omega)]
          rw [hSP] at NP
          have hin : inB A 0 ((P.length : Int) - 1) = false := inB_false2 (by omega)
          have hA1 : (A == -1) = false := by rw [beq_eq_false_iff_ne]; omega
          have hA2 : (A == -2) = false := by rw [beq_eq_false_iff_ne]; omega
          have F : Hid (StD w B (.slice a1 P.length q1) (.slice a2 S.length q2) (doP P (l.take (k + 1))) (doS S (l.take (k + 1))) (wr.alloc (.cells #[.int .i64 A, .string T, .int .i64 V, .int .i64 R] 35))) := by rw [NP, NS]; exact sW
          clear NP NS st sW hSS hSP
          go_wp2_with fail
          refine (l1In_any _ _ _ _).mono ?_
          rintro e w2 ⟨rfl, hw⟩
          subst hw
          rw [hin]
          go_wp2
          go_roundw
          case rel => exact ⟨k + 1, by omega, by go_num, F.out⟩
          case measure => simp [intOf]; omega
      · have hSP : stepP Q A T = Q := by unfold stepP; rw [if_neg (by omega)]
        rw [hSP] at NP
        have hin : inB A 0 ((P.length : Int) - 1) = false := inB_false1 (by omega)
        by_cases hs : -1 - A < min 2 (X.length : Int)
        · obtain ⟨g, q, e, hgl, ⟨x, y, hc, hd⟩, hf, hf', hn, hq, s2⟩ := sW.super A V R (by omega) hs
          injection e with e1 e2 e3
          subst e1 e3
          unfold maxLen at hq
          have hA12 : A = -1 ∨ A = -2 := by omega
          rcases hA12 with rfl | rfl
          · -- the first super
            have F : Hid (StD w B (.slice a1 P.length q1) (.slice (some ⟨g, 0, none⟩) S.length q2) (doP P (l.take (k + 1))) (doS S (l.take (k + 1))) (((wr.alloc (.cells #[.int .i64 (-1), .string T, .int .i64 V, .int .i64 R] 35)).setCell ⟨g, 0, none⟩ (.int .i64 V)).setCell ⟨g, 1, none⟩ (.int .i64 R))) := by rw [NP, NS]; exact s2
            have hS0 : 0 < S.length := by omega
            replace hc : (wr.alloc (.cells #[.int .i64 (-1), .string T, .int .i64 V, .int .i64 R] 35)).cell? ⟨g, 0, none⟩ = some (.int .i64 x) := hc
            replace hd : (wr.alloc (.cells #[.int .i64 (-1), .string T, .int .i64 V, .int .i64 R] 35)).cell? ⟨g, 1, none⟩ = some (.int .i64 y) := hd
            replace hf : (wr.alloc (.cells #[.int .i64 (-1), .string T, .int .i64 V, .int .i64 R] 35)).frozen? ⟨g, 0, none⟩ = false := hf
            replace hf' : (wr.alloc (.cells #[.int .i64 (-1), .string T, .int .i64 V, .int .i64 R] 35)).frozen? ⟨g, 1, none⟩ = false := hf'
            clear NP NS s2 st sW hSP e2 hs hX hQ
            go_wp2_with fail
            refine (l1In_any _ _ _ _).mono ?_
            rintro e w2 ⟨rfl, hw⟩
            subst hw
            rw [hin]
            go_wp2
            go_roundw
            case rel => exact ⟨k + 1, by omega, by go_num, F.out⟩
            case measure => simp [intOf]; omega
          · -- the second super
            have F : Hid (StD w B (.slice a1 P.length q1) (.slice (some ⟨g, 0, none⟩) S.length q2) (doP P (l.take (k + 1))) (doS S (l.take (k + 1))) (((wr.alloc (.cells #[.int .i64 (-2), .string T, .int .i64 V, .int .i64 R] 35)).setCell ⟨g, 2, none⟩ (.int .i64 V)).setCell ⟨g, 3, none⟩ (.int .i64 R))) := by rw [NP, NS]; exact s2
            have hS1 : 1 < S.length := by omega
            replace hc : (wr.alloc (.cells #[.int .i64 (-2), .string T, .int .i64 V, .int .i64 R] 35)).cell? ⟨g, 2, none⟩ = some (.int .i64 x) := hc
            replace hd : (wr.alloc (.cells #[.int .i64 (-2), .string T, .int .i64 V, .int .i64 R] 35)).cell? ⟨g, 3, none⟩ = some (.int .i64 y) := hd
            replace hf : (wr.alloc (.cells #[.int .i64 (-2), .string T, .int .i64 V, .int .i64 R] 35)).frozen? ⟨g, 2, none⟩ = false := hf
            replace hf' : (wr.alloc (.cells #[.int .i64 (-2), .string T, .int .i64 V, .int .i64 R] 35)).frozen? ⟨g, 3, none⟩ = false := hf'
            clear NP NS s2 st sW hSP e2 hs hX hQ
            go_wp2_with fail
            refine (l1In_any _ _ _ _).mono ?_
            rintro e w2 ⟨rfl, hw⟩
            subst hw
            rw [hin]
            go_wp2
            go_roundw
            case rel => exact ⟨k + 1, by omega, by go_num, F.out⟩
            case measure => simp [intOf]; omega
        · have hSS : stepS X A V R = X := by unfold stepS; rw [if_neg (by omega)]
          rw [hSS] at NS
          have F : Hid (StD w B (.slice a1 P.length q1) (.slice a2 S.length q2) (doP P (l.take (k + 1))) (doS S (l.take (k + 1))) (wr.alloc (.cells #[.int .i64 A, .string T, .int .i64 V, .int .i64 R] 35))) := by rw [NP, NS]; exact sW
          clear NP NS st sW hSS hSP
          by_cases h1 : A = -1
          · subst h1
            have hz' : ¬ 0 < S.length := by omega
            clear hs hX
            generalize S.length = sl at *
            go_wp2_with fail
            refine (l1In_any _ _ _ _).mono ?_
            rintro e w2 ⟨rfl, hw⟩
            subst hw
            rw [hin]
            go_wp2
            go_roundw
            case rel => exact ⟨k + 1, by omega, by go_num, F.out⟩
            case measure => simp [intOf]; omega
          · by_cases h2 : A = -2
            · subst h2
              have hz : ¬ 1 < S.length := by omega
              clear hs h1
              go_wp2_with fail
              refine (l1In_any _ _ _ _).mono ?_
              rintro e w2 ⟨rfl, hw⟩
              subst hw
              rw [hin]
              go_wp2
              go_roundw
              case rel => exact ⟨k + 1, by omega, by go_num, F.out⟩
              case measure => simp [intOf]; omega
            · have hA1 : (A == -1) = false := by rw [beq_eq_false_iff_ne]; omega
              have hA2 : (A == -2) = false := by rw [beq_eq_false_iff_ne]; omega
              clear hs
              go_wp2_with fail
              refine (l1In_any _ _ _ _).mono ?_
              rintro e w2 ⟨rfl, hw⟩
              subst hw
              rw [hin]
              go_wp2
              go_roundw
              case rel => exact ⟨k + 1, by omega, by go_num, F.out⟩
              case measure => simp [intOf]; omega
    · have hkk : k = l.length := by omega
      subst hkk
      rw [List.take_length] at st
      obtain ⟨hB, hR, o1, o2, hbel⟩ := st
      have n0 : wr.cell? ⟨w.heap.size + 1, 0, none⟩ = some (.slice none 0 0) := cell_of_cells hR
      have n1 : wr.cell? ⟨w.heap.size + 1, 1, none⟩ = some (.slice none 0 0) := cell_of_cells hR
      have f0 : wr.frozen? ⟨w.heap.size + 1, 0, none⟩ = false := frozen_of_cells hR
      have f1 : wr.frozen? ⟨w.heap.size + 1, 1, none⟩ = false := frozen_of_cells hR
      have ch : Chg (fun g => g = w.heap.size + 1) wr ((wr.setCell ⟨w.heap.size + 1, 0, none⟩ (.slice a1 P.length q1)).setCell ⟨w.heap.size + 1, 1, none⟩ (.slice a2 S.length q2)) := ((Chg.refl (fun g => g = w.heap.size + 1) _).setAt (w.heap.size + 1) 0 rfl _).setAt (w.heap.size + 1) 1 rfl _
      have F : Hid (DiskE ((wr.setCell ⟨w.heap.size + 1, 0, none⟩ (.slice a1 P.length q1)).setCell ⟨w.heap.size + 1, 1, none⟩ (.slice a2 S.length q2)) w.heap.size (.agg #[.slice a1 P.length q1, .slice a2 S.length q2]) (doP P l) (doS S l) ∧ Below w.heap.size w ((wr.setCell ⟨w.heap.size + 1, 0, none⟩ (.slice a1 P.length q1)).setCell ⟨w.heap.size + 1, 1, none⟩ (.slice a2 S.length q2))) :=
        ⟨⟨_, _, rfl, o1.chg ch (fun g hg => ownE_ne o1 hR (by decide) hg), o2.chg ch (fun g hg => ownE_ne o2 hR (by decide) hg)⟩, hbel.trans (ch.below (fun g _ hg => by omega) hbel.size)⟩
      clear hB hR hbel ch o1 o2
      go_wp2
      refine bodyPost_ret (v := .agg #[.slice a1 P.length q1, .slice a2 S.length q2]) (by simp [results, Try.results9, go_sem, n0, n1]) rfl ⟨_, rfl, F.out⟩

end Go.Proofs.Ytmpngehhojlmmaa
