/-
  The contract of the program's told.
-/
import Derived.Test.YtccdleafkhnfmaaGreatTold
namespace Go.Proofs.YtccdleafkhnfmaaGreat
open Go.RowKit Go.Shelf

set_option maxRecDepth 100000 in
set_option maxHeartbeats 4000000 in
theorem told_of {m : Nat} (H : ToldIs m) : ToldIs (m + 1) := by
  intro n x T lo hi w0 w va ab ht bw hva hd hab
  cases n with
  | zero => exact ht.elim
  | succ n =>
  have TT : Hid (TreeAt (n + 1) w0 x T) := ht
  obtain ⟨hlf, hpr, _, _, _⟩ := ht.parts
  obtain ⟨a1, a2, a3, a4, q1, q2, q3, q4, hx⟩ := ht.shape
  subst hx
  simp only at hpr
  obtain ⟨av, cv, rfl⟩ := owns_val hva
  have hmf : ∀ (fn : Fn) (first cap : Array Value) (w : World), (Instr.makeFunc fn first cap).run Tryz.prog w = .ok (.func fn first cap) w := fun _ _ _ _ => rfl
  have BW : Hid (Below w0.heap.size w0 w) := bw
  have B0 : Hid (Below w.heap.size w ((w.alloc (.cells #[.bool T.leaf, .slice a1 T.pairs.length q1, .slice a2 T.cuts.length q2, .slice a3 T.kids.length q3, .slice a4 T.buf.length q4] 37)).alloc (.cells #[.slice av ab.length cv] 35))) := ((Below.refl _ _).alloc (Nat.le_refl _) _).alloc (by simp) _
  have S0 : Hid (OneAt ((w.alloc (.cells #[.bool T.leaf, .slice a1 T.pairs.length q1, .slice a2 T.cuts.length q2, .slice a3 T.kids.length q3, .slice a4 T.buf.length q4] 37)).alloc (.cells #[.slice av ab.length cv] 35)) w.heap.size #[.bool T.leaf, .slice a1 T.pairs.length q1, .slice a2 T.cuts.length q2, .slice a3 T.kids.length q3, .slice a4 T.buf.length q4]) :=
    (OneAt.start w _).step ((Below.refl _ _).alloc (Nat.le_refl _) _)
  have S1 : Hid (Boxed ((w.alloc (.cells #[.bool T.leaf, .slice a1 T.pairs.length q1, .slice a2 T.cuts.length q2, .slice a3 T.kids.length q3, .slice a4 T.buf.length q4] 37)).alloc (.cells #[.slice av ab.length cv] 35)) (w.heap.size + 1) 35 (.slice av ab.length cv)) := by
    have := Boxed.new (w.alloc (.cells #[.bool T.leaf, .slice a1 T.pairs.length q1, .slice a2 T.cuts.length q2, .slice a3 T.kids.length q3, .slice a4 T.buf.length q4] 37)) 35 (.slice av ab.length cv)
    rw [World.size_alloc] at this
    exact this
  have OA : Hid (w.ownsRow 0 79 3 (.slice av ab.length cv) ab.length (flatM ab)) := hva
  have RP : Hid (Row w0 (.slice a1 T.pairs.length q1) T.pairs.length (flatP T.pairs)) := hpr
  clear hpr hva ht bw
  cases hl : T.leaf
  · have HG : Hid (Gives Tryz.prog 47 #[.pointer (some ⟨w.heap.size, 0, none⟩), .pointer (some ⟨w.heap.size + 1, 0, none⟩)] encP (fun g => g < w0.heap.size ∨ (Value.slice av ab.length cv).ownBlock = some g ∨ g = w.heap.size ∨ g = w.heap.size + 1) (toldF (m + 1) T ab) ((w.alloc (.cells #[.bool T.leaf, .slice a1 T.pairs.length q1, .slice a2 T.cuts.length q2, .slice a3 T.kids.length q3, .slice a4 T.buf.length q4] 37)).alloc (.cells #[.slice av ab.length cv] 35))) :=
      told1_in H n _ T lo hi w0 _ w.heap.size (.slice av ab.length cv) ab TT.out (BW.out.trans (B0.out.mono BW.out.size)) (owns_below OA.out B0.out) hd hl hab S0.out S1.out
    rw [hl] at B0 S0 S1 HG
    have EN : Hid (∀ args u, (callFunc 47 args).run Tryz.prog u = .ok (.enter 47 args) u) := enters_of Tryz.func47 (by kernel_rfl) rfl
    have DL : Hid (∀ g, (g < w0.heap.size ∨ (Value.slice av ab.length cv).ownBlock = some g ∨ g = w.heap.size ∨ g = w.heap.size + 1) → g < ((w.alloc (.cells #[.bool false, .slice a1 T.pairs.length q1, .slice a2 T.cuts.length q2, .slice a3 T.kids.length q3, .slice a4 T.buf.length q4] 37)).alloc (.cells #[.slice av ab.length cv] 35)).heap.size) := fun g hg => by
      have h1 := BW.out.size
      simp only [World.size_alloc]
      rcases hg with h | h | h | h
      · omega
      · have := (OA.out.lt g h).2; omega
      · omega
      · omega
    have DC : Hid (∀ g, (g < w0.heap.size ∨ (Value.slice av ab.length cv).ownBlock = some g ∨ g = w.heap.size ∨ g = w.heap.size + 1) → g < w0.heap.size ∨ (Value.slice av ab.length cv).ownBlock = some g ∨ w.heap.size ≤ g) := fun g hg => by
      rcases hg with h | h | h | h
      · exact .inl h
      · exact .inr (.inl h)
      · exact .inr (.inr (by omega))
      · exact .inr (.inr (by omega))
    generalize T.pairs.length = n1 at *
    generalize T.cuts.length = n2 at *
    generalize T.kids.length = n3 at *
    generalize T.buf.length = n4 at *
    show Calls Tryz.prog 33 #[.agg #[.bool false, .slice a1 n1 q1, .slice a2 n2 q2, .slice a3 n3 q3, .slice a4 n4 q4], .slice av ab.length cv] w _
    clear hd TT H
    go_enter Tryz.func33, Tryz.ntmps33
    go_wp2
    go_ret
    first
      | exact ⟨47, _, rfl, EN.out, _, HG.out, DL.out, DC.out, B0.out⟩
      | exact ⟨47, _, _, rfl, EN.out, HG.out, DL.out, DC.out, B0.out⟩
  · have TE : Hid (toldF (m + 1) T ab = allL T.pairs ab) := by
      show _ = _
      rw [toldF, if_pos hl]
    have hp4 := (leafOk_parts (depthF_leaf_ok hd hl)).2.1
    rw [TE.out]
    rw [hl] at B0 S0 S1
    obtain ⟨k0, k1, k2, k3, k4⟩ := box_cells5 S0.out
    have j0 := S1.out.cell
    have RP1 : Hid _ := (RP.out.below BW.out).below B0.out
    have RA1 : Hid _ := Row.of_owns (owns_below OA.out B0.out)
    have EN : Hid (∀ args u, (callFunc 56 args).run Tryz.prog u = .ok (.enter 56 args) u) := enters_of Tryz.func56 (by kernel_rfl) rfl
    have hlb := allL_length T.pairs ab
    generalize T.cuts.length = n2 at *
    generalize T.kids.length = n3 at *
    generalize T.buf.length = n4 at *
    show Calls Tryz.prog 33 #[.agg #[.bool true, .slice a1 T.pairs.length q1, .slice a2 n2 q2, .slice a3 n3 q3, .slice a4 n4 q4], .slice av ab.length cv] w _
    clear hd TT H
    go_enter Tryz.func33, Tryz.ntmps33
    go_wp2_with fail
    refine Calls.mono (implMapAll_any _ _ T.pairs ab _ RP1.out RA1.out (by omega)) ?_
    rintro e w1 ⟨v1, rfl, o1, b1⟩
    have B1 : Hid (Below w.heap.size w w1) := Below.and B0.out b1
    have O1 : Hid (w1.ownsRow w.heap.size 53 2 v1 (allL T.pairs ab).length (flatP (allL T.pairs ab))) := owns_mono o1 (Nat.le_trans (by simp; omega) (Nat.le_refl _))
    obtain ⟨vv, cc, rfl⟩ := owns_val o1
    clear o1 b1 k0 k1 k2 k3 k4 j0
    go_wp2_with fail
    refine Calls.mono (values_any (.slice vv (allL T.pairs ab).length cc) w1 vv _ cc rfl) ?_
    rintro e w2 ⟨rfl, hw2⟩
    subst hw2
    have HG : Hid (Gives Tryz.prog 56 #[.pointer (some ⟨w1.heap.size, 0, none⟩)] encP (fun g => g = w1.heap.size ∨ (Value.slice vv (allL T.pairs ab).length cc).ownBlock = some g) (allL T.pairs ab) (w1.alloc (.cells #[(Value.slice vv (allL T.pairs ab).length cc)] 33))) :=
      values1_in w1.heap.size (Value.slice vv (allL T.pairs ab).length cc) (allL T.pairs ab) _ (Boxed.new w1 33 (Value.slice vv (allL T.pairs ab).length cc)) ((owns_mono O1.out (Nat.zero_le _)).alloc _) (by omega)
    have FB : Hid (Below w.heap.size w (w1.alloc (.cells #[(Value.slice vv (allL T.pairs ab).length cc)] 33))) := B1.out.alloc B1.out.size _
    have DL : Hid (∀ g, (g = w1.heap.size ∨ (Value.slice vv (allL T.pairs ab).length cc).ownBlock = some g) → g < (w1.alloc (.cells #[(Value.slice vv (allL T.pairs ab).length cc)] 33)).heap.size) := fun g hg => by
      rw [World.size_alloc]
      rcases hg with h | h
      · omega
      · have := (O1.out.lt g h).2; omega
    have DC : Hid (∀ g, (g = w1.heap.size ∨ (Value.slice vv (allL T.pairs ab).length cc).ownBlock = some g) → g < w0.heap.size ∨ (Value.slice av ab.length cv).ownBlock = some g ∨ w.heap.size ≤ g) := fun g hg => by
      rcases hg with h | h
      · exact .inr (.inr (by rw [h]; exact B1.out.size))
      · exact .inr (.inr (O1.out.lt g h).1)
    go_wp2
    go_ret
    first
      | exact ⟨119, _, rfl, EN.out, _, HG.out, DL.out, DC.out, FB.out⟩
      | exact ⟨56, _, _, rfl, EN.out, HG.out, DL.out, DC.out, FB.out⟩

theorem told_0 : ToldIs 0 := fun _ _ _ _ _ _ _ _ _ _ _ _ h => absurd rfl h
theorem told_any : ∀ m, ToldIs m
  | 0 => told_0
  | m + 1 => told_of (told_any m)

end Go.Proofs.YtccdleafkhnfmaaGreat
