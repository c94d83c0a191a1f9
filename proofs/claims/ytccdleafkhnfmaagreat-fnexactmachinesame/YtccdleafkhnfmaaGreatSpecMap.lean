/-
  Contracts of the model's MapDo and MapAll.
-/
import Derived.Test.YtccdleafkhnfmaaGreatSpecPut
import Derived.Test.YtccdleafkhnfmaaGreatMapOk
import Derived.Test.YtccdleafkhnfmaaGreatMapGet
import Derived.Test.YtccdleafkhnfmaaGreatPart1
namespace Go.Proofs.YtccdleafkhnfmaaGreat
open Go.RowKit

theorem getP_in {l : PL} (h : MapP l) (k : Int) : -1000000000 ≤ (getP l k).1 ∧ (getP l k).1 ≤ 1000000000 := by
  have hh : ∀ l : PL, (∀ p ∈ l, PairIn p) → -1000000000 ≤ (getP l k).1 ∧ (getP l k).1 ≤ 1000000000 := by
    intro l
    induction l with
    | nil => intro _; simp [getP]
    | cons p l ih =>
      intro h
      rw [getP]
      split
      · exact (h p (by simp)).2
      · exact ih (fun q hq => h q (by simp [hq]))
  exact hh l h.2

theorem wrap_small (x : Int) (h1 : -4000000000 ≤ x) (h2 : x ≤ 4000000000) : IntKind.i64.wrap x = x := by rw [IntKind.wrap_i64]; omega
theorem room_row {n bytes : Nat} (h : n ≤ 8388608) (hb : bytes ≤ 256) : 0 + n ≤ maxLen ∧ (0 + n) * bytes ≤ 140737488355328 := by
  refine ⟨by unfold maxLen; omega, ?_⟩
  have : (0 + n) * bytes ≤ (0 + n) * 256 := Nat.mul_le_mul_left _ hb
  omega

theorem doL_bad {l : PL} {o k v : Int} (h : mapOkB l = false ∨ msgOkB o k v = false) : doL l (o, k, v) = l := by
  unfold doL
  rw [if_neg]
  rintro ⟨h1, h2⟩
  rcases h with h | h
  · rw [h] at h1; cases h1
  · simp only at h2; rw [h] at h2; cases h2
theorem doL_ok {l : PL} {o k v : Int} (h1 : mapOkB l = true) (h2 : msgOkB o k v = true) : doL l (o, k, v) = doP l (o, k, v) := by
  unfold doL; rw [if_pos ⟨h1, h2⟩]

set_option maxRecDepth 100000 in
set_option maxHeartbeats 2000000 in
theorem specMapDo_any (va : Value) (l : PL) (o k v : Int) (w : World) (h : Row w va l.length (flatP l)) (hn : l.length ≤ 2097152) :
    Calls Tryz.prog 53 #[va, .agg #[.int .i64 o, .int .i64 k, .int .i64 v]] w fun e w' => ∃ v', e = .returned v' ∧ w'.ownsRow w.heap.size 53 2 v' (doL l (o, k, v)).length (flatP (doL l (o, k, v))) ∧ Below w.heap.size w w' := by
  obtain ⟨i0, hi, hz0, hz1, hz2⟩ := info_parts Tryz.info53
  have b0 : Below w.heap.size w (w.alloc (.cells #[.int .i64 o, .int .i64 k, .int .i64 v] 79)) := (Below.refl _ _).alloc (Nat.le_refl _) _
  have RW : Hid (Row w va l.length (flatP l)) := h
  have HR : Hid _ := room_row (n := l.length) (bytes := 16) (by omega) (by decide)
  obtain ⟨a, b, off, cap, hva, _⟩ := h.pairs
  cases hM : mapOkB l
  · have E : Hid (doL l (o, k, v) = l) := doL_bad (Or.inl hM)
    clear h hva
    go_enter Tryz.func53, Tryz.ntmps53
    go_wp2_with fail
    refine (specMapOk_any va l _ (RW.out.below b0)).mono ?_
    rw [hM]
    rintro e w1 ⟨rfl, b1⟩
    have B1 : Below w.heap.size w w1 := Below.and b0 b1
    have B1s := B1.size
    have R1 : Row w1 va l.length (flatP l) := (RW.out.below b0).below b1
    have RR : Hid (Row w1 va l.length (flatP l)) := R1
    clear b0 b1 R1 hM
    have Hb : Hid (w.heap.size ≤ (w1.alloc (.cells #[] 53)).heap.size) := by show _ ≤ _; simp; omega
    go_wp2_with (at_builtin; refine app_row (w1.alloc (.cells #[] 53)) rfl _ _ 33 rfl w.heap.size 53 i0 _ 2 16 Tryz.underlying33 hi hz0 hz1 hz2 rfl (by decide) (.slice (some ⟨w1.heap.size, 0, none⟩) 0 0) 0 [] rfl (empty_own w1 w.heap.size 53 2 B1s) va l.length (flatP l) rfl (RR.out.below ((Below.refl _ _).alloc (Nat.le_refl _) _)) (flatP_length _) (flatP_one _) HR.out.1 HR.out.2 Hb.out ?_)
    intro v' w2 ho2 _ hb2
    have B2 : Below w.heap.size w w2 := (B1.alloc B1s _).trans hb2
    clear hb2 B1
    go_wp2
    go_ret
    rw [E.out]
    exact ⟨_, rfl, by simpa using ho2, B2⟩
  · have hmp : MapP l := (mapOkB_iff l).1 hM
    cases hG : msgOkB o k v
    · have E : Hid (doL l (o, k, v) = l) := doL_bad (Or.inr hG)
      clear h hva
      go_enter Tryz.func53, Tryz.ntmps53
      go_wp2_with fail
      refine (specMapOk_any va l _ (RW.out.below b0)).mono ?_
      rw [hM]
      rintro e w1 ⟨rfl, b1⟩
      have B1 : Below w.heap.size w w1 := Below.and b0 b1
      obtain ⟨hc, _⟩ := bcell b1
      have R1 : Row w1 va l.length (flatP l) := (RW.out.below b0).below b1
      have RR : Hid (Row w1 va l.length (flatP l)) := R1
      have B1' : Hid _ := B1
      clear b0 b1 R1 hM B1 hmp
      go_wp2_with fail
      refine (specMsgOk_any _ _ _ _).mono ?_
      rw [hG]
      rintro e w2 ⟨rfl, b2⟩
      have B2 : Below w.heap.size w w2 := Below.and B1'.out b2
      have R2 : Hid (Row w2 va l.length (flatP l)) := RR.out.below b2
      have B2s := B2.size
      clear hc b2 hG
      have Hb : Hid (w.heap.size ≤ (w2.alloc (.cells #[] 53)).heap.size) := by show _ ≤ _; simp; omega
      go_wp2_with (at_builtin; refine app_row (w2.alloc (.cells #[] 53)) rfl _ _ 33 rfl w.heap.size 53 i0 _ 2 16 Tryz.underlying33 hi hz0 hz1 hz2 rfl (by decide) (.slice (some ⟨w2.heap.size, 0, none⟩) 0 0) 0 [] rfl (empty_own w2 w.heap.size 53 2 B2s) va l.length (flatP l) rfl (R2.out.below ((Below.refl _ _).alloc (Nat.le_refl _) _)) (flatP_length _) (flatP_one _) HR.out.1 HR.out.2 Hb.out ?_)
      intro v' w3 ho3 _ hb3
      have B3 : Below w.heap.size w w3 := (B2.alloc B2s _).trans hb3
      clear hb3 B2
      go_wp2
      go_ret
      rw [E.out]
      exact ⟨_, rfl, by simpa using ho3, B3⟩
    · have E : Hid (doL l (o, k, v) = doP l (o, k, v)) := doL_ok hM hG
      obtain ⟨⟨ho1, ho4⟩, ⟨hk0, hk9⟩, hv0, hv9⟩ := msgOkB_in hG
      obtain ⟨hg0, hg9⟩ := getP_in hmp k
      have ASC : Hid (Asc l) := hmp.1
      clear h hva
      go_enter Tryz.func53, Tryz.ntmps53
      go_wp2_with fail
      refine (specMapOk_any va l _ (RW.out.below b0)).mono ?_
      rw [hM]
      rintro e w1 ⟨rfl, b1⟩
      have B1 : Below w.heap.size w w1 := Below.and b0 b1
      obtain ⟨hc, _⟩ := bcell b1
      have R1 : Row w1 va l.length (flatP l) := (RW.out.below b0).below b1
      have RR : Hid (Row w1 va l.length (flatP l)) := R1
      have B1' : Hid (Below w.heap.size w w1) := B1
      have b1' : Hid _ := b1
      clear b1 R1 hM B1 hmp
      go_wp2_with fail
      refine (specMsgOk_any _ _ _ _).mono ?_
      rw [hG]
      rintro e w2 ⟨rfl, b2⟩
      have B2 : Below w.heap.size w w2 := Below.and B1'.out b2
      have R2 : Hid (Row w2 va l.length (flatP l)) := RR.out.below b2
      have b3 := Below.and b1'.out b2
      obtain ⟨hc3, _⟩ := bcell b3
      have B2' : Hid (Below w.heap.size w w2) := B2
      clear hc b2 hG b1' B1' RR b3 B2 b0
      go_wp2_with fail
      refine (specMapGet_any _ l _ _ R2.out).mono ?_
      rintro e w3 ⟨rfl, rfl⟩
      generalize hgp : getP l k = G at *
      obtain ⟨g, gb⟩ := G
      simp only at hg0 hg9
      rcases (show o = 1 ∨ o = 2 ∨ o = 3 ∨ o = 4 from by omega) with rfl | rfl | rfl | rfl
      · have E2 : Hid (doP l (1, k, v) = putF l k v) := by show doP _ _ = _; simp [doP]
        clear hgp
        go_wp2_with fail
        refine (l1Put_any _ l _ _ _ R2.out hn ASC.out).mono ?_
        rintro e w4 ⟨v', rfl, o4, b4⟩
        go_wp2
        go_ret
        rw [E.out, E2.out]
        exact ⟨_, rfl, owns_mono o4 B2'.out.size, Below.and B2'.out b4⟩
      · have E2 : Hid (doP l (2, k, v) = delF l k) := by show doP _ _ = _; simp [doP]
        clear hgp
        go_wp2_with fail
        refine (l1Without_any _ l _ _ R2.out (by omega)).mono ?_
        rintro e w4 ⟨v', rfl, o4, b4⟩
        go_wp2
        go_ret
        rw [E.out, E2.out]
        exact ⟨_, rfl, owns_mono o4 B2'.out.size, Below.and B2'.out b4⟩
      · have E2 : Hid (doP l (3, k, v) = putF l k (clampI (g + v))) := by show doP _ _ = _; simp [doP, hgp]
        have hw : IntKind.i64.wrap (g + v) = g + v := wrap_small _ (by omega) (by omega)
        clear hgp
        go_wp2_with fail
        go_region_with (first | (go_at_call 71; refine (l1Clamp_any _ _).mono ?_; rintro e w' ⟨rfl, rfl⟩) | (go_at_call 69; refine (l1Put_any _ l _ _ _ (R2.out.below (by exact (Below.refl _ _).drew)) hn ASC.out).mono ?_; rintro e w4 ⟨v', rfl, o4, b4⟩))
        all_goals
          go_wp2
          go_ret
          rw [E.out, E2.out]
          exact ⟨_, rfl, owns_mono o4 B2'.out.size, B2'.out.drew.trans (b4.mono B2'.out.size)⟩
      · have E2 : Hid (doP l (4, k, v) = l) := by show doP _ _ = _; simp [doP]
        clear hgp
        have B2s := B2'.out.size
        have Hb : Hid (w.heap.size ≤ (w3.alloc (.cells #[] 53)).heap.size) := by show _ ≤ _; simp; omega
        go_wp2_with (at_builtin; refine app_row (w3.alloc (.cells #[] 53)) rfl _ _ 33 rfl w.heap.size 53 i0 _ 2 16 Tryz.underlying33 hi hz0 hz1 hz2 rfl (by decide) (.slice (some ⟨w3.heap.size, 0, none⟩) 0 0) 0 [] rfl (empty_own w3 w.heap.size 53 2 B2s) va l.length (flatP l) rfl (R2.out.below ((Below.refl _ _).alloc (Nat.le_refl _) _)) (flatP_length _) (flatP_one _) HR.out.1 HR.out.2 Hb.out ?_)
        intro v' w4 ho3 _ hb3
        have B3 : Below w.heap.size w w4 := (B2'.out.alloc B2s _).trans hb3
        clear hb3
        go_wp2
        go_ret
        rw [E.out, E2.out]
        exact ⟨_, rfl, by simpa using ho3, B3⟩

end Go.Proofs.YtccdleafkhnfmaaGreat
