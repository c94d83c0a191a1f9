/-
  The program's writeInto: one write into the rows of a disk.
-/
import Derived.Test.YtmpngehhojlmmaaDskDo
namespace Go.Proofs.Ytmpngehhojlmmaa
open Go.RowKit

set_option maxHeartbeats 400000 in
theorem atOfSuper_any (a : Int) (h0 : -9223372036854775808 ≤ a) (h1 : a ≤ 9223372036854775807) (w : World) :
    Calls Try.prog 51 #[.int .i64 a] w fun e w' => e = .returned (.int .i64 (-1 - a)) ∧ w' = w := by
  go_enter Try.func51, Try.ntmps51
  go_wp2
  go_ret
  exact ⟨rfl, rfl⟩

/-- one write into the pages -/
theorem own_page {w : World} {base : Nat} {vp : Value} {P : PL} (h : w.ownsRow base 9 1 vp P.length (flatS P)) (a : Int) (t : ByteArray) (h0 : 0 ≤ a) (h1 : a < P.length) :
    ∃ g q, vp = .slice (some ⟨g, 0, none⟩) P.length q ∧ base ≤ g ∧ (∃ u, w.cell? ⟨g, a.toNat, none⟩ = some (.string u)) ∧ w.frozen? ⟨g, a.toNat, none⟩ = false ∧
      (w.setCell ⟨g, a.toNat, none⟩ (.string t)).ownsRow base 9 1 vp P.length (flatS (stepP P a t)) ∧ vp.ownBlock = some g ∧ P.length ≤ q ∧ q ≤ maxLen := by
  have hlt : a.toNat < P.length := by omega
  have h' := h
  obtain ⟨hl, ⟨rfl, hz⟩ | ⟨g, q, cur, rfl, hg, hh, hn, hcap, _⟩⟩ := h
  · omega
  · have st := (h'.stored a.toNat (.string t)).1
    rw [flatS_set] at st
    refine ⟨g, q, rfl, hg, ⟨_, (h'.cellAt a.toNat (by omega)).trans (flatS_at P _ hlt)⟩, h'.frozenAt _, ?_, rfl, hn, hcap⟩
    unfold stepP
    rw [if_pos ⟨h0, h1⟩]
    exact st
theorem own_super {w : World} {base : Nat} {vs : Value} {S : SL} (h : w.ownsRow base 33 2 vs S.length (flatP S)) (a b c : Int) (h0 : 0 ≤ -1 - a) (h1 : -1 - a < min 2 (S.length : Int)) :
    ∃ g q, vs = .slice (some ⟨g, 0, none⟩) S.length q ∧ base ≤ g ∧ (∃ x y, w.cell? ⟨g, (-1 - a).toNat * 2, none⟩ = some (.int .i64 x) ∧ w.cell? ⟨g, (-1 - a).toNat * 2 + 1, none⟩ = some (.int .i64 y)) ∧ w.frozen? ⟨g, (-1 - a).toNat * 2, none⟩ = false ∧ w.frozen? ⟨g, (-1 - a).toNat * 2 + 1, none⟩ = false ∧
      ((w.setCell ⟨g, (-1 - a).toNat * 2, none⟩ (.int .i64 b)).setCell ⟨g, (-1 - a).toNat * 2 + 1, none⟩ (.int .i64 c)).ownsRow base 33 2 vs S.length (flatP (stepS S a b c)) ∧ vs.ownBlock = some g ∧ S.length ≤ q ∧ q ≤ maxLen := by
  have hlt : (-1 - a).toNat < S.length := by omega
  have h' := h
  obtain ⟨hl, ⟨rfl, hz⟩ | ⟨g, q, cur, rfl, hg, hh, hn, hcap, _⟩⟩ := h
  · omega
  · have st := ((h'.stored ((-1 - a).toNat * 2) (.int .i64 b)).1.stored ((-1 - a).toNat * 2 + 1) (.int .i64 c)).1
    rw [flatP_set S b c _ hlt] at st
    have hat := flatP_at S (-1 - a).toNat hlt
    refine ⟨g, q, rfl, hg, ⟨_, _, (h'.cellAt _ (by omega)).trans hat.1, (h'.cellAt _ (by omega)).trans hat.2⟩, h'.frozenAt _, h'.frozenAt _, ?_, rfl, hn, hcap⟩
    unfold stepS
    rw [if_pos ⟨h0, h1⟩]
    exact st

set_option maxRecDepth 100000 in
set_option maxHeartbeats 400000 in
theorem writeInto_any (base : Nat) (v : Value) (P : PL) (S : SL) (a : Int) (t : ByteArray) (b c : Int) (w : World) (h : DiskOwn w base v P S) (h0 : -9223372036854775808 ≤ a) (h1 : a ≤ 9223372036854775807) :
    Calls Try.prog 28 #[v, .agg #[.int .i64 a, .string t, .int .i64 b, .int .i64 c]] w fun e w' => e = .returned (.tuple #[]) ∧ DiskOwn w' base v (stepP P a t) (stepS S a b c) ∧ Chg (dBlk v) w w' := by
  obtain ⟨vp, vs, rfl, o1, o2⟩ := h
  obtain ⟨ap, qp, rfl⟩ := owns_val o1
  obtain ⟨au, qu, rfl⟩ := owns_val o2
  have lp : P.length ≤ 9223372036854775807 := by obtain ⟨_, q, e, q1, q2⟩ := (Row.of_owns o1).len; unfold maxLen at q1; omega
  have ls : S.length ≤ 9223372036854775807 := by obtain ⟨_, q, e, q1, q2⟩ := (Row.of_owns o2).len; unfold maxLen at q1; omega
  by_cases ha : 0 ≤ a
  · have hSS : stepS S a b c = S := by unfold stepS; rw [if_neg (by omega)]
    rw [hSS]
    have hn : ¬ 0 ≤ -1 - a := by omega
    clear hSS
    by_cases hp : a < P.length
    · obtain ⟨n, rfl⟩ := Int.eq_ofNat_of_zero_le ha
      obtain ⟨g, q, e, hg, ⟨u, hc⟩, hf, st, hob, hn2, hq⟩ := own_page o1 n t ha hp
      injection e with e1 e2 e3
      subst e1 e3
      rw [Int.toNat_natCast] at hc hf st
      have cs := owns_chg o2 ((Chg.refl (fun g' => (Value.slice (some ⟨g, 0, none⟩) P.length qp).ownBlock = some g') _).setAt g n rfl (.string t)) (fun g' hs hp' => blk_ne o1 o2 hp' hs)
      have hgl : g < w.heap.size := (o1.lt g hob).2
      have hg1 : ¬ w.heap.size + 1 = g := by omega
      have hg2 : ¬ g = w.heap.size + 1 := by omega
      have hg3 : ¬ w.heap.size = g := by omega
      have hg4 : ¬ g = w.heap.size := by omega
      have O : Hid _ := And.intro st (And.intro cs ((Chg.refl (dBlk (.agg #[.slice (some ⟨g, 0, none⟩) P.length qp, .slice au S.length qu])) w).setAt g n ⟨_, _, rfl, Or.inl rfl⟩ (.string t)))
      unfold maxLen at hq
      clear o1 o2 st cs hob
      go_enter Try.func28, Try.ntmps28
      go_wp2_with fail
      refine (atOfSuper_any n h0 h1 _).mono ?_
      rintro e w1 ⟨rfl, hw1⟩
      subst hw1
      go_wp2
      go_end0
      obtain ⟨st, cs, bs⟩ := O.out
      exact ⟨rfl, ⟨_, _, rfl, by rw [stepP_length]; exact owns_below st (bel_al (bel_al (Below.refl _ _) _) _), owns_below cs (bel_al (bel_al (Below.refl _ _) _) _)⟩, (bs.alloc _).alloc _⟩
    · have hSP : stepP P a t = P := by unfold stepP; rw [if_neg (by omega)]
      rw [hSP]
      have O : Hid _ := And.intro o1 o2
      clear hSP o1 o2
      go_enter Try.func28, Try.ntmps28
      go_wp2_with fail
      refine (atOfSuper_any a h0 h1 _).mono ?_
      rintro e w1 ⟨rfl, hw1⟩
      subst hw1
      go_wp2
      go_end0
      refine ⟨rfl, ⟨_, _, rfl, ?_, ?_⟩, ?_⟩
      · exact owns_below O.out.1 (bel_al (bel_al (Below.refl _ _) _) _)
      · exact owns_below O.out.2 (bel_al (bel_al (Below.refl _ _) _) _)
      · exact Chg.of_below (bel_al (bel_al (Below.refl _ _) _) _)
  · have hSP : stepP P a t = P := by unfold stepP; rw [if_neg (by omega)]
    rw [hSP]
    clear hSP
    by_cases hs : -1 - a < min 2 (S.length : Int)
    · have hs0 : 0 ≤ -1 - a := by omega
      have bW : Below w.heap.size w ((w.alloc (.cells #[.slice ap P.length qp, .slice au S.length qu] 27)).alloc (.cells #[.int .i64 a, .string t, .int .i64 b, .int .i64 c] 35)) := bel_al (bel_al (Below.refl _ _) _) _
      have o1' := owns_below o1 bW
      have o2' := owns_below o2 bW
      obtain ⟨g, q, e, hg, ⟨x, y, hc, hd⟩, hf, hf', st, hob, hn2, hq⟩ := own_super o2' a b c hs0 hs
      injection e with e1 e2 e3
      subst e1 e3
      obtain ⟨m, hm⟩ := Int.eq_ofNat_of_zero_le hs0
      have hm' : (-1 - a).toNat = m := by omega
      rw [hm'] at hc hd hf hf' st
      have cs := owns_chg o1' (((Chg.refl (fun g' => (Value.slice (some ⟨g, 0, none⟩) S.length qu).ownBlock = some g') _).setAt g (m * 2) rfl (.int .i64 b)).setAt g (m * 2 + 1) rfl (.int .i64 c)) (fun g' hp' hs => blk_ne o1' o2' hp' hs)
      have O : Hid _ := And.intro cs (And.intro st (((((Chg.refl (dBlk (.agg #[.slice ap P.length qp, .slice (some ⟨g, 0, none⟩) S.length qu])) w).alloc (.cells #[.slice ap P.length qp, .slice (some ⟨g, 0, none⟩) S.length qu] 27)).alloc (.cells #[.int .i64 a, .string t, .int .i64 b, .int .i64 c] 35)).setAt g (m * 2) ⟨_, _, rfl, Or.inr rfl⟩ (.int .i64 b)).setAt g (m * 2 + 1) ⟨_, _, rfl, Or.inr rfl⟩ (.int .i64 c)))
      have HM : Hid _ := hm
      have hm2 : m < S.length := by omega
      have hm3 : m < 2 := by omega
      unfold maxLen at hq
      clear o1 o2 o1' o2' st cs bW hob hm hm' hs hs0
      go_enter Try.func28, Try.ntmps28
      go_wp2_with fail
      refine (atOfSuper_any a h0 h1 _).mono ?_
      rintro e w1 ⟨rfl, hw1⟩
      subst hw1
      rw [HM.out]
      go_wp2
      all_goals
        go_end0
        exact ⟨rfl, ⟨_, _, rfl, O.out.1, by rw [stepS_length]; exact O.out.2.1⟩, O.out.2.2⟩
    · have hSS : stepS S a b c = S := by unfold stepS; rw [if_neg (by omega)]
      rw [hSS]
      have O : Hid _ := And.intro o1 o2
      have hn : 0 ≤ -1 - a := by omega
      clear hSS o1 o2
      go_enter Try.func28, Try.ntmps28
      go_wp2_with fail
      refine (atOfSuper_any a h0 h1 _).mono ?_
      rintro e w1 ⟨rfl, hw1⟩
      subst hw1
      go_wp2
      all_goals
        go_end0
        refine ⟨rfl, ⟨_, _, rfl, ?_, ?_⟩, ?_⟩
        · exact owns_below O.out.1 (bel_al (bel_al (Below.refl _ _) _) _)
        · exact owns_below O.out.2 (bel_al (bel_al (Below.refl _ _) _) _)
        · exact Chg.of_below (bel_al (bel_al (Below.refl _ _) _) _)

end Go.Proofs.Ytmpngehhojlmmaa
