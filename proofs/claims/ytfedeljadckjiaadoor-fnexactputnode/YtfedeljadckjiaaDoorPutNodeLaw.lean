/-
  The walk of the law FnExactPutNode.
-/
import Derived.Test.YtfedeljadckjiaaDoorSPutNode
import Derived.Test.YtfedeljadckjiaaDoorMarkT
import Derived.Test.YtfedeljadckjiaaDoorToByte
import Derived.Test.YtfedeljadckjiaaDoorTreeSz
import Derived.Test.YtfedeljadckjiaaDoorTreeEq
import Derived.Deep.DeepCutAuto
namespace Go.Proofs.YtfedeljadckjiaaDoor
open Go.RowKit

theorem wp_gen {P : Program} {code : Code} {Q : Exit → Act → World → Prop} {a : Act} {w0 : World} (S : World → Prop) (h0 : S w0) (h : ∀ W, S W → Code.wp P code Q a W) : Code.wp P code Q a w0 := h _ h0
theorem sizes_in {n : Nat} {T : Tr} {w : World} {x : TV} (h : sizeT n T ≤ 1048576) (ht : TreeAt n w x T) : T.pairs.length ≤ 1099511627776 ∧ T.cuts.length ≤ 1099511627776 ∧ T.kids.length ≤ 1099511627776 ∧ T.buf.length ≤ 1099511627776 := by
  cases n with
  | zero => exact ht.elim
  | succ n => rw [sizeT] at h; omega
theorem PutPost.split {w : World} {g : Option (List Int)} {e : Ending} {w' : World} (h : PutPost w g e w') : ∃ v', e = .returned (.tuple #[v', .bool g.isSome]) ∧ OwnB w.heap.size w' v' (g.getD []) := by
  obtain ⟨v', h⟩ := h
  cases g with
  | none => exact ⟨v', h⟩
  | some bs => exact ⟨v', h⟩
theorem putNodeF_length (T : Tr) (ks : List Int) : ((putNodeF T ks).getD []).length ≤ 200 := by
  unfold putNodeF
  split
  · rename_i h
    have h1 := formsB_length (nodeNums T ks)
    have h2 := nodeNums_length h.1
    simp only [Option.getD_some]
    omega
  · simp
theorem IntRow.other {w w' : World} {lo hi : Nat} {v : Value} {n size : Nat} (h : IntRow w lo hi v n size) (hs : ∀ g, lo ≤ g → g < hi → w'.heap[g]? = w.heap[g]?) : IntRow w' lo hi v n size := by
  obtain ⟨a, g, cap, t, h1, h2, h3, h4⟩ := h
  refine ⟨a, g, cap, t, h1, h2, h3, fun h => ?_⟩
  obtain ⟨k1, k2, k3, k4, A, k5, k6⟩ := h4 h
  exact ⟨k1, k2, k3, k4, A, by rw [hs g k2 k3]; exact k5, k6⟩

set_option maxRecDepth 100000 in
set_option maxHeartbeats 8000000 in
theorem fnExactPutNode_any (ea : Addr) (n : Nat) (x : TV) (T : Tr) (v : Value) (ks : List Int) (w : World) (ht : TreeAt n w x T) (hks : Row w v ks.length (flatI ks)) (he : ErrIs ea w) :
    Calls Tryd.prog 6 #[x.val, v] w fun e w' => e = .returned (.bool true) ∧ Below w.heap.size w w' := by
  have TT : Hid (TreeAt n w x T ∧ Row w v ks.length (flatI ks) ∧ ErrIs ea w) := ⟨ht, hks, he⟩
  obtain ⟨ak, qk, hvk, hkm⟩ := hks.len
  clear ht hks he
  subst hvk
  unfold maxLen at hkm
  obtain ⟨lf, p, c, k, b⟩ := x
  have B0 : Hid (Below w.heap.size w (w.alloc (.cells #[.bool lf, p, c, k, b] 53))) := bel_new w _
  have S0 : Hid (BoxAt 53 (w.alloc (.cells #[.bool lf, p, c, k, b] 53)) w.heap.size #[.bool lf, p, c, k, b]) := BoxAt.start 53 w _
  by_cases hkb : ks.length ≤ 1048576
  · by_cases hbig : sizeT n T ≤ 1048576
    · have SZ : Hid (∀ w0, Below w.heap.size w w0 → Calls Tryd.prog 27 #[.agg #[.bool lf, p, c, k, b], .int .i64 1048576] w0 fun e w' => e = .returned (.int .i64 (1048576 - (sizeT n T : Nat))) ∧ Below w0.heap.size w0 w') := fun w0 hb => by
        have h1 := szTree_any n ⟨lf, p, c, k, b⟩ T 1048576 w0 (TT.out.1.below hb) (by omega) (by omega)
        rw [leftOf_yes (by omega)] at h1
        exact h1
      have MKB : Hid (1 + ((mkT n T : Nat) : Int) ≤ 1000000000) := by
        have := mkT_le n T
        show _ ≤ _
        omega
      have TW : Hid (∀ w0, Below w.heap.size w w0 → Calls Tryd.prog 28 #[.agg #[.bool lf, p, c, k, b]] w0 fun e w' => ∃ y : TV, e = .returned y.val ∧ TreeOwn n w' w0.heap.size y T ∧ Below w0.heap.size w0 w') := fun w0 hb =>
        toTree_any n ⟨lf, p, c, k, b⟩ T w0 (TT.out.1.below hb) hbig
      have TI : Hid (∀ w0, Below w.heap.size w w0 → Calls Tryd.prog 29 #[.slice ak ks.length qk] w0 fun e w' => ∃ v', e = .returned v' ∧ w'.ownsRow w0.heap.size 3 1 v' ks.length (flatI ks) ∧ Below w0.heap.size w0 w') := fun w0 hb =>
        toIntS_any _ ks w0 (TT.out.2.1.below hb) hkb
      have LEN : Hid (T.pairs.length ≤ 1099511627776 ∧ T.cuts.length ≤ 1099511627776 ∧ T.kids.length ≤ 1099511627776 ∧ T.buf.length ≤ 1099511627776) := sizes_in hbig TT.out.1
      have SP : Hid (∀ (y : TV) (u : Value) (w0 : World), TreeAt n w0 y T → Row w0 u ks.length (flatI ks) → Calls Tryd.prog 11 #[y.val, u] w0 fun e w' => ∃ v', e = .returned (.tuple #[v', .bool (putNodeF T ks).isSome]) ∧ OwnB w0.heap.size w' v' ((putNodeF T ks).getD []) ∧ Below w0.heap.size w0 w') := fun y u w0 t r =>
        (specPutNode_any n y T u ks w0 t r LEN.out.1 LEN.out.2.1 LEN.out.2.2.1 LEN.out.2.2.2 (by omega)).mono (fun e w' h => by obtain ⟨v', h1, h2⟩ := h.1.split; exact ⟨v', h1, h2, h.2⟩)
      have IM : Hid (∀ (y : TV) (u : Value) (w0 : World), TreeAt n w0 y T → Row w0 u ks.length (flatI ks) → ErrIs ea w0 → Calls Tryd.prog 10 #[y.val, u] w0 fun e w' => ∃ v', e = .returned (.tuple #[v', .bool (putNodeF T ks).isSome]) ∧ OwnB w0.heap.size w' v' ((putNodeF T ks).getD []) ∧ Below w0.heap.size w0 w') := fun y u w0 t r h0 =>
        (implPutNode_any ea n y T u ks w0 t r h0).mono (fun e w' h => by obtain ⟨v', h1, h2⟩ := h.1.split; exact ⟨v', h1, h2, h.2⟩)
      have ER : Hid (∀ w0, Below w.heap.size w w0 → ErrIs ea w0) := fun w0 hb => TT.out.2.2.below hb
      have hDl : ((putNodeF T ks).getD []).length ≤ 200 := putNodeF_length T ks
      generalize (putNodeF T ks).getD [] = D at *
      generalize (putNodeF T ks).isSome = o at *
      have ho : (o != o) = false := by simp
      have hs : (sizeT n T : Int) ≤ 1048576 := by omega
      generalize sizeT n T = sz at *
      show Calls Tryd.prog 6 #[.agg #[.bool lf, p, c, k, b], .slice ak ks.length qk] w _
      go_enter Tryd.func6, Tryd.ntmps6
      go_wp2_with fail
      refine Calls.mono (SZ.out _ B0.out) ?_
      rintro e w1 ⟨rfl, hb1⟩
      have B1 : Hid (Below w.heap.size w w1) := Below.and B0.out hb1
      have S1 : Hid (BoxAt 53 w1 w.heap.size #[.bool lf, p, c, k, b]) := S0.out.step hb1
      have k1 := S1.out.cells
      clear hb1 B0 S0
      go_wp2_with fail
      refine Calls.mono (TW.out _ B1.out) ?_
      rintro e w2 ⟨y2, rfl, t2, hb2⟩
      have B2 : Hid (Below w.heap.size w w2) := Below.and B1.out hb2
      have S2 : Hid (BoxAt 53 w2 w.heap.size #[.bool lf, p, c, k, b]) := S1.out.step hb2
      have T2 : Hid (TreeAt n w2 y2 T) := t2.treeAt
      clear hb2 t2 k1
      go_wp2_with fail
      refine Calls.mono (TI.out _ B2.out) ?_
      rintro e w2b ⟨u2, rfl, i2, hb2b⟩
      have B2b : Hid (Below w.heap.size w w2b) := Below.and B2.out hb2b
      have S2b : Hid (BoxAt 53 w2b w.heap.size #[.bool lf, p, c, k, b]) := S2.out.step hb2b
      have T2b : Hid (TreeAt n w2b y2 T ∧ Row w2b u2 ks.length (flatI ks)) := ⟨T2.out.below hb2b, Row.of_owns i2⟩
      clear hb2b i2
      go_wp2_with fail
      refine Calls.mono (SP.out y2 u2 w2b T2b.out.1 T2b.out.2) ?_
      rintro e w3 ⟨v3, rfl, o3, hb3⟩
      have B3 : Hid (Below w.heap.size w w3) := Below.and B2b.out hb3
      have S3 : Hid (BoxAt 53 w3 w.heap.size #[.bool lf, p, c, k, b]) := S2b.out.step hb3
      have O3 : Hid (w3.ownsRow 0 5 1 v3 D.length (flatB D)) := owns_mono o3 (Nat.zero_le _)
      have L3 : Hid (∀ g, v3.ownBlock = some g → g < w3.heap.size) := fun g hg => (World.ownsRow.lt o3 g hg).2
      have k3 := S3.out.cells
      clear hb3 o3 B1 B2 S1 S2 T2 B2b S2b T2b
      go_wp2_with fail
      refine Calls.mono (TW.out _ B3.out) ?_
      rintro e w4 ⟨y4, rfl, t4, hb4⟩
      have B4 : Hid (Below w.heap.size w w4) := Below.and B3.out hb4
      have S4 : Hid (BoxAt 53 w4 w.heap.size #[.bool lf, p, c, k, b]) := S3.out.step hb4
      have O4 : Hid (w4.ownsRow 0 5 1 v3 D.length (flatB D)) := owns_below O3.out hb4
      obtain ⟨a1, a2, a3, a4, q1, q2, q3, q4, hy⟩ := t4.treeAt.shape
      generalize T.leaf = m0, T.pairs.length = m1, T.cuts.length = m2, T.kids.length = m3, T.buf.length = m4 at hy
      subst hy
      have T4 : Hid (TreeAt n w4 ⟨m0, .slice a1 m1 q1, .slice a2 m2 q2, .slice a3 m3 q3, .slice a4 m4 q4⟩ T) := t4.treeAt
      have K4 : Hid (WkTree n w4 w3.heap.size w4.heap.size ⟨m0, .slice a1 m1 q1, .slice a2 m2 q2, .slice a3 m3 q3, .slice a4 m4 q4⟩ T) := WkTree.of_own t4
      have k4 := S4.out.cells
      have hlt3 : w.heap.size < w3.heap.size := (Array.getElem?_eq_some_iff.1 S3.out).1
      have hlt34 : w3.heap.size ≤ w4.heap.size := hb4.size
      have hne4 : ¬ w.heap.size = w4.heap.size := by omega
      have B5 : Hid (Below w.heap.size w (w4.alloc (.cells #[.bool m0, .slice a1 m1 q1, .slice a2 m2 q2, .slice a3 m3 q3, .slice a4 m4 q4] 29))) := B4.out.alloc B4.out.size _
      have S5 : Hid (BoxAt 53 (w4.alloc (.cells #[.bool m0, .slice a1 m1 q1, .slice a2 m2 q2, .slice a3 m3 q3, .slice a4 m4 q4] 29)) w.heap.size #[.bool lf, p, c, k, b]) := S4.out.step (bel_new _ _)
      have X5 : Hid (BoxAt 29 (w4.alloc (.cells #[.bool m0, .slice a1 m1 q1, .slice a2 m2 q2, .slice a3 m3 q3, .slice a4 m4 q4] 29)) w4.heap.size #[.bool m0, .slice a1 m1 q1, .slice a2 m2 q2, .slice a3 m3 q3, .slice a4 m4 q4]) := BoxAt.start 29 w4 _
      have T5 : Hid (TreeAt n (w4.alloc (.cells #[.bool m0, .slice a1 m1 q1, .slice a2 m2 q2, .slice a3 m3 q3, .slice a4 m4 q4] 29)) ⟨m0, .slice a1 m1 q1, .slice a2 m2 q2, .slice a3 m3 q3, .slice a4 m4 q4⟩ T) := T4.out.below (bel_new _ _)
      have N5 : Hid (Below w4.heap.size w4 (w4.alloc (.cells #[.bool m0, .slice a1 m1 q1, .slice a2 m2 q2, .slice a3 m3 q3, .slice a4 m4 q4] 29))) := bel_new _ _
      have hz5 : Hid ((w4.alloc (.cells #[.bool m0, .slice a1 m1 q1, .slice a2 m2 q2, .slice a3 m3 q3, .slice a4 m4 q4] 29)).heap.size = w4.heap.size + 1) := World.size_alloc _ _
      clear hb4 t4 k3 B3 S3 O3
      go_wp2_with fail
      refine Calls.mono (TI.out _ B5.out) ?_
      rintro e w5 ⟨u5, rfl, i5, hb5⟩
      have B5b : Hid (Below w.heap.size w w5) := Below.and B5.out hb5
      have S5b : Hid (BoxAt 53 w5 w.heap.size #[.bool lf, p, c, k, b]) := S5.out.step hb5
      have X5b : Hid (BoxAt 29 w5 w4.heap.size #[.bool m0, .slice a1 m1 q1, .slice a2 m2 q2, .slice a3 m3 q3, .slice a4 m4 q4]) := X5.out.step hb5
      have T5b : Hid (TreeAt n w5 ⟨m0, .slice a1 m1 q1, .slice a2 m2 q2, .slice a3 m3 q3, .slice a4 m4 q4⟩ T) := T5.out.below hb5
      have N5b : Hid (Below w4.heap.size w4 w5) := Below.and N5.out hb5
      have hs5 : w4.heap.size + 1 ≤ w5.heap.size := by have := hb5.size; rw [hz5.out] at this; exact this
      have i5' : w5.ownsRow (w4.heap.size + 1) 3 1 u5 ks.length (flatI ks) := by rw [hz5.out] at i5; exact i5
      have I5 : Hid (IntRow w5 (w4.heap.size + 1) w5.heap.size u5 ks.length 1 ∧ Row w5 u5 ks.length (flatI ks)) := ⟨IntRow.of_owns i5' (by decide) (flatI_int _), Row.of_owns i5⟩
      obtain ⟨au, qu, hu5, _⟩ := owns_shape i5
      subst hu5
      have x5c := X5b.out.cells
      clear hb5 i5 i5' k4 B4 B5 S4 S5 X5 T4 T5 N5 hz5
      go_wp2_with fail
      refine Calls.mono (IM.out ⟨m0, .slice a1 m1 q1, .slice a2 m2 q2, .slice a3 m3 q3, .slice a4 m4 q4⟩ _ _ T5b.out I5.out.2 (ER.out _ B5b.out)) ?_
      rintro e w6 ⟨v6, rfl, o6, hb6⟩
      have B6 : Hid (Below w.heap.size w w6) := Below.and B5b.out hb6
      have S6 : Hid (BoxAt 53 w6 w.heap.size #[.bool lf, p, c, k, b]) := S5b.out.step hb6
      have X6 : Hid (BoxAt 29 w6 w4.heap.size #[.bool m0, .slice a1 m1 q1, .slice a2 m2 q2, .slice a3 m3 q3, .slice a4 m4 q4]) := X5b.out.step hb6
      have T6 : Hid (TreeAt n w6 ⟨m0, .slice a1 m1 q1, .slice a2 m2 q2, .slice a3 m3 q3, .slice a4 m4 q4⟩ T) := T5b.out.below hb6
      have N6 : Hid (Below w4.heap.size w4 w6) := Below.and N5b.out hb6
      have M6 : Hid (Below w5.heap.size w5 w6) := hb6
      have O6 : Hid (w6.ownsRow 0 5 1 v6 D.length (flatB D)) := owns_mono o6 (Nat.zero_le _)
      have L6 : Hid (∀ g, v6.ownBlock = some g → w5.heap.size ≤ g) := fun g hg => (World.ownsRow.lt o6 g hg).1
      clear hb6 o6 B5b S5b X5b T5b N5b x5c
      have R36 : Row w6 v3 D.length (flatB D) := Row.of_owns (owns_below O4.out N6.out)
      have R66 : Row w6 v6 D.length (flatB D) := Row.of_owns O6.out
      generalize hbx : w4.heap.size = bx at *
      generalize hs5x : w5.heap.size = s5 at *
      go_wp2_with fail
      refine Calls.mono (eqByteS_any _ _ D D _ R66 R36) ?_
      rintro e w7 ⟨rfl, hb7⟩
      have N7 : Hid (Below w6.heap.size w6 w7) := hb7
      have B7 : Hid (Below w.heap.size w w7) := Below.and B6.out hb7
      have S7 : Hid (BoxAt 53 w7 w.heap.size #[.bool lf, p, c, k, b]) := S6.out.step hb7
      have X7 : Hid (BoxAt 29 w7 bx #[.bool m0, .slice a1 m1 q1, .slice a2 m2 q2, .slice a3 m3 q3, .slice a4 m4 q4]) := X6.out.step hb7
      have T7 : Hid (TreeAt n w7 ⟨m0, .slice a1 m1 q1, .slice a2 m2 q2, .slice a3 m3 q3, .slice a4 m4 q4⟩ T) := T6.out.below hb7
      have k7 := S7.out.cells
      have j7 := X7.out.cells
      clear hb7 R36 R66 B6 S6 X6 T6
      go_upto_region 13 with fail
      refine wp_gen (fun V => V = w7) rfl ?_
      intro V hV
      go_cut [56] (fun s56 wx => s56 = .bool false ∧ Hid (Below w7.heap.size w7 wx))
      case first =>
        subst hV
        go_wp2_with fail
        go_region_with (first
          | (go_at_call 28; refine Calls.mono (TW.out _ B7.out.drew) ?_; rintro e w8 ⟨y8, rfl, t8, hb8⟩; have B8 : Hid (Below V.heap.size V w8) := Below.and (Below.refl _ _).drew hb8; have T8 : Hid (TreeAt n w8 y8 T) := t8.treeAt; have X8 := (X7.out.step B8.out).cells; have U8 : Hid (TreeAt n w8 ⟨m0, .slice a1 m1 q1, .slice a2 m2 q2, .slice a3 m3 q3, .slice a4 m4 q4⟩ T) := T7.out.below B8.out; clear hb8 t8)
          | (go_at_call 30; refine Calls.mono (eqTree_any n ⟨m0, .slice a1 m1 q1, .slice a2 m2 q2, .slice a3 m3 q3, .slice a4 m4 q4⟩ y8 T _ U8.out T8.out) ?_; rintro e w9 ⟨rfl, hb9⟩; have B9 : Hid (Below V.heap.size V w9) := Below.and B8.out hb9; clear hb9))
        all_goals
          go_wp2_with fail
          go_meet
          case rel => exact ⟨rfl, B9⟩
      case rest =>
      obtain ⟨rfl, B9⟩ := hcut
      clear hV V k7 j7
      have N9 : Hid (Below w6.heap.size w6 wc) := Below.and N7.out B9.out
      have C9 : Hid (Below w.heap.size w wc) := Below.and B7.out B9.out
      have S9 : Hid (BoxAt 53 wc w.heap.size #[.bool lf, p, c, k, b]) := S7.out.step B9.out
      have X9 : Hid (BoxAt 29 wc bx #[.bool m0, .slice a1 m1 q1, .slice a2 m2 q2, .slice a3 m3 q3, .slice a4 m4 q4]) := X7.out.step B9.out
      clear B7 S7 X7 T7 N7 B9
      go_wp2_with fail
      refine Calls.mono (TI.out _ C9.out) ?_
      rintro e wd ⟨ud, rfl, idd, hbd⟩
      have Nd : Hid (Below w6.heap.size w6 wd) := Below.and N9.out hbd
      have Cd : Hid (Below w.heap.size w wd) := Below.and C9.out hbd
      have Sd : Hid (BoxAt 53 wd w.heap.size #[.bool lf, p, c, k, b]) := S9.out.step hbd
      have Xd : Hid (BoxAt 29 wd bx #[.bool m0, .slice a1 m1 q1, .slice a2 m2 q2, .slice a3 m3 q3, .slice a4 m4 q4]) := X9.out.step hbd
      have Rd := Row.of_owns idd
      have R5d := (I5.out.2.below (by rw [hs5x]; exact M6.out)).below Nd.out
      clear hbd idd N9 C9 S9 X9
      go_wp2_with fail
      refine Calls.mono (eqIntS_any _ _ ks ks _ R5d Rd) ?_
      rintro e we ⟨rfl, hbe⟩
      have Ne : Hid (Below w6.heap.size w6 we) := Below.and Nd.out hbe
      have Ce : Hid (Below w.heap.size w we) := Below.and Cd.out hbe
      have Se : Hid (BoxAt 53 we w.heap.size #[.bool lf, p, c, k, b]) := Sd.out.step hbe
      have Xe : Hid (BoxAt 29 we bx #[.bool m0, .slice a1 m1 q1, .slice a2 m2 q2, .slice a3 m3 q3, .slice a4 m4 q4]) := Xd.out.step hbe
      have Me : Hid (Below bx w4 we) := N6.out.trans (Ne.out.mono (by have := N6.out.size; omega))
      have M5e : Hid (Below s5 w5 we) := M6.out.trans (Ne.out.mono (by have := M6.out.size; omega))
      have Ke : Hid (WkTree n we w3.heap.size bx ⟨m0, .slice a1 m1 q1, .slice a2 m2 q2, .slice a3 m3 q3, .slice a4 m4 q4⟩ T) := K4.out.mk (Mk.of_below Me.out (by omega))
      have Ie : Hid (IntRow we (bx + 1) s5 (.slice au ks.length qu) ks.length 1) := I5.out.1.other (fun g _ hg => M5e.out.block g hg)
      have O3e : Hid (we.ownsRow 0 5 1 v3 D.length (flatB D)) := owns_below O4.out (by rw [hbx]; exact Me.out)
      have O6e : Hid (we.ownsRow 0 5 1 v6 D.length (flatB D)) := owns_below O6.out Ne.out
      have hbw : bx ≤ we.heap.size := Nat.le_of_lt (Array.getElem?_eq_some_iff.1 Xe.out).1
      have hsw : s5 ≤ we.heap.size := Nat.le_trans (by have := M6.out.size; omega) Ne.out.size
      have je := Xe.out.cells
      clear hbe Rd R5d Nd Cd Sd Xd N6 O4 O6 K4 M6 I5
      go_wp2_with fail
      refine Calls.mono (markTree_w n ⟨m0, .slice a1 m1 q1, .slice a2 m2 q2, .slice a3 m3 q3, .slice a4 m4 q4⟩ T 1 we w3.heap.size bx Ke.out hbw (by decide) (by have := MKB.out; omega)) ?_
      rintro e w10 ⟨rfl, mk⟩
      have C10 : Hid (Below w.heap.size w w10) := Ce.out.trans (mk.chg.below (fun g _ hg => by omega) Ce.out.size)
      have S10 : Hid (BoxAt 53 w10 w.heap.size #[.bool lf, p, c, k, b]) := (mk.chg.block _ (Array.getElem?_eq_some_iff.1 Se.out).1 (fun h => by omega)).trans Se.out
      have O310 : Hid (w10.ownsRow 0 5 1 v3 D.length (flatB D)) := owns_chg O3e.out mk.chg (fun g hg h => by have := L3.out g hg; omega)
      have O610 : Hid (w10.ownsRow 0 5 1 v6 D.length (flatB D)) := owns_chg O6e.out mk.chg (fun g hg h => by have := L6.out g hg; omega)
      have I10 : Hid (IntRow w10 (bx + 1) s5 (.slice au ks.length qu) ks.length 1) := Ie.out.other (fun g h1 h2 => mk.chg.block g (by omega) (fun h => by omega))
      have hs10 : s5 ≤ w10.heap.size := Nat.le_trans hsw mk.chg.size
      have hm0 : (0 : Int) ≤ 1 + ((mkT n T : Nat) : Int) := by omega
      have hm1 : 1 + ((mkT n T : Nat) : Int) ≤ 1000000000 := MKB.out
      generalize 1 + ((mkT n T : Nat) : Int) = mk1 at *
      clear mk je Ce Se Xe Ke Ie O3e O6e
      go_wp2_with fail
      refine Calls.mono (markIntS_w _ ks.length mk1 w10 (bx + 1) s5 I10.out hm0 (by omega)) ?_
      rintro e w10b ⟨rfl, mkb⟩
      have C10b : Hid (Below w.heap.size w w10b) := C10.out.trans (mkb.chg.below (fun g _ hg => by omega) C10.out.size)
      have S10b : Hid (BoxAt 53 w10b w.heap.size #[.bool lf, p, c, k, b]) := (mkb.chg.block _ (Array.getElem?_eq_some_iff.1 S10.out).1 (fun h => by omega)).trans S10.out
      have O310b : Hid (w10b.ownsRow 0 5 1 v3 D.length (flatB D)) := owns_chg O310.out mkb.chg (fun g hg h => by have := L3.out g hg; omega)
      have O610b : Hid (w10b.ownsRow 0 5 1 v6 D.length (flatB D)) := owns_chg O610.out mkb.chg (fun g hg h => by have := L6.out g hg; omega)
      have R310 : Row w10b v3 D.length (flatB D) := Row.of_owns O310b.out
      have R610 : Row w10b v6 D.length (flatB D) := Row.of_owns O610b.out
      have hk0 : ¬ (mk1 + (ks.length : Int) < 0) := by omega
      have hk1 : 0 ≤ mk1 + (ks.length : Int) := by omega
      clear mkb C10 S10 O310 O610 I10
      go_wp2_with fail
      refine Calls.mono (eqByteS_any _ _ D D _ R610 R310) ?_
      rintro e w11 ⟨rfl, hb11⟩
      have C11 : Hid (Below w.heap.size w w11) := Below.and C10b.out hb11
      have S11 : Hid (BoxAt 53 w11 w.heap.size #[.bool lf, p, c, k, b]) := S10b.out.step hb11
      have O311 : Hid (w11.ownsRow 0 5 1 v3 D.length (flatB D)) := owns_below O310b.out hb11
      have O611 := owns_below O610b.out hb11
      clear hb11 R310 R610 C10b S10b O310b O610b
      go_wp2_with fail
      refine Calls.mono (markByteS_any _ D 1 _ O611 (by omega) (by decide) (by decide)) ?_
      rintro e w12 ⟨rfl, o612, c12⟩
      have C12 : Hid (Below w.heap.size w w12) := C11.out.trans (c12.below (fun g _ hg => by have := L6.out g hg; omega) C11.out.size)
      have S12 : Hid (BoxAt 53 w12 w.heap.size #[.bool lf, p, c, k, b]) := (c12.block _ (Array.getElem?_eq_some_iff.1 S11.out).1 (fun h => by have := L6.out _ h; omega)).trans S11.out
      have O312 : Hid (w12.ownsRow 0 5 1 v3 D.length (flatB D)) := owns_chg O311.out c12 (fun g hg h => by have := L3.out g hg; have := L6.out g h; omega)
      have R612 : Row w12 v6 D.length (flatB (marksB 1 D.length)) := Row.of_owns o612
      have Q612 : Hid _ := R612
      clear o612 c12 O611 C11 S11 O311
      go_wp2_with fail
      refine Calls.mono (heldByteS_any _ D.length 1 _ R612 (by omega) (by decide) (by decide)) ?_
      rintro e w13 ⟨rfl, hw13⟩
      subst hw13
      have k13 := S12.out.cells
      clear R612
      go_wp2_with fail
      refine Calls.mono (TW.out _ C12.out) ?_
      rintro e w14 ⟨y14, rfl, t14, hb14⟩
      have N14 : Hid (Below w13.heap.size w13 w14) := hb14
      have C14 : Hid (Below w.heap.size w w14) := Below.and C12.out hb14
      have T14 : Hid (TreeAt n w14 y14 T) := t14.treeAt
      clear hb14 t14 k13
      go_wp2_with fail
      refine Calls.mono (TI.out _ C14.out) ?_
      rintro e w14b ⟨u14, rfl, i14, hb14b⟩
      have N14b : Hid (Below w13.heap.size w13 w14b) := Below.and N14.out hb14b
      have C14b : Hid (Below w.heap.size w w14b) := Below.and C14.out hb14b
      have T14b : Hid (TreeAt n w14b y14 T ∧ Row w14b u14 ks.length (flatI ks)) := ⟨T14.out.below hb14b, Row.of_owns i14⟩
      clear hb14b i14 T14 N14 C14
      go_wp2_with fail
      refine Calls.mono (IM.out y14 u14 w14b T14b.out.1 T14b.out.2 (ER.out _ C14b.out)) ?_
      rintro e w15 ⟨v15, rfl, o15, hb15⟩
      have N15 : Hid (Below w13.heap.size w13 w15) := Below.and N14b.out hb15
      have R15 : Row w15 v15 D.length (flatB D) := Row.of_owns o15
      have R315 : Row w15 v3 D.length (flatB D) := Row.of_owns (owns_below O312.out N15.out)
      clear hb15 o15 N14b T14b
      go_wp2_with fail
      refine Calls.mono (eqByteS_any _ _ D D _ R15 R315) ?_
      rintro e w16 ⟨rfl, hb16⟩
      have N16 : Hid (Below w13.heap.size w13 w16) := Below.and N15.out hb16
      have R616 := Row.below (xs := flatB (marksB 1 D.length)) (v := v6) (n := D.length) Q612.out N16.out
      clear hb16 R15 R315
      go_wp2_with fail
      refine Calls.mono (heldByteS_any _ D.length 1 _ R616 (by omega) (by decide) (by decide)) ?_
      rintro e w17 ⟨rfl, hw17⟩
      subst hw17
      clear R616
      go_wp2
      go_ret
      exact ⟨rfl, Below.and C12.out N16.out⟩
    · have SZ : Hid (∀ w0, Below w.heap.size w w0 → Calls Tryd.prog 27 #[.agg #[.bool lf, p, c, k, b], .int .i64 1048576] w0 fun e w' => e = .returned (.int .i64 (-1)) ∧ Below w0.heap.size w0 w') := fun w0 hb => by
        have h1 := szTree_any n ⟨lf, p, c, k, b⟩ T 1048576 w0 (TT.out.1.below hb) (by omega) (by omega)
        rw [leftOf_no (by omega)] at h1
        exact h1
      show Calls Tryd.prog 6 #[.agg #[.bool lf, p, c, k, b], .slice ak ks.length qk] w _
      clear hbig
      go_enter Tryd.func6, Tryd.ntmps6
      go_wp2_with fail
      refine Calls.mono (SZ.out _ B0.out) ?_
      rintro e w1 ⟨rfl, hb1⟩
      have B1 : Hid (Below w.heap.size w w1) := Below.and B0.out hb1
      clear hb1
      go_wp2
      go_ret
      exact ⟨rfl, B1.out⟩
  · show Calls Tryd.prog 6 #[.agg #[.bool lf, p, c, k, b], .slice ak ks.length qk] w _
    go_enter Tryd.func6, Tryd.ntmps6
    go_wp2
    go_ret
    exact ⟨rfl, B0.out⟩

end Go.Proofs.YtfedeljadckjiaaDoor
