/-
  The contract of the model's Inject.
-/
import Derived.Test.YtmpiijphpnjlnaaGreatDrainTop
import Derived.Test.YtmpiijphpnjlnaaGreatStepF
namespace Go.Proofs.YtmpiijphpnjlnaaGreat
open Go.RowKit

def MsgB (w : World) (B : Nat) (A : Array Value) : Prop := w.heap[B]? = some (.cells A 37 (0, 0))
theorem MsgB.step {u w' : World} {B : Nat} {A : Array Value} (h : MsgB u B A) (hb : Below u.heap.size u w') : MsgB w' B A := (hb.block B (Array.getElem?_eq_some_iff.1 h).1).trans h
theorem MsgB.three {u : World} {B : Nat} {x0 x1 x2 : Value} (h : MsgB u B #[x0, x1, x2]) : u.cell? ⟨B, 0, none⟩ = some x0 ∧ u.cell? ⟨B, 1, none⟩ = some x1 ∧ u.cell? ⟨B, 2, none⟩ = some x2 :=
  ⟨by rw [cell_of_row u B 0 _ 37 (0, 0) h]; rfl, by rw [cell_of_row u B 1 _ 37 (0, 0) h]; rfl, by rw [cell_of_row u B 2 _ 37 (0, 0) h]; rfl⟩

set_option maxRecDepth 100000 in
set_option maxHeartbeats 8000000 in
theorem specInject_any (n : Nat) (x : TV) (T : Tr) (o k v : Int) (w : World) (ht : TreeAt n w x T) (hsz : sizeT n T ≤ 1099511627776) :
    Calls Tryz.prog 78 #[x.val, .agg #[.int .i64 o, .int .i64 k, .int .i64 v]] w fun e w' => ∃ (y : TV) (N : Nat), e = .returned y.val ∧ TreeD N w' (fun g => w.heap.size ≤ g) y (injF T (o, k, v)) ∧ Below w.heap.size w w' := by
  obtain ⟨a1, a2, a3, a4, q1, q2, q3, q4, hx⟩ := ht.shape
  subst hx
  have HO : Hid (∀ w1, Below w.heap.size w w1 → Calls Tryz.prog 14 #[.agg #[.bool T.leaf, .slice a1 T.pairs.length q1, .slice a2 T.cuts.length q2, .slice a3 T.kids.length q3, .slice a4 T.buf.length q4]] w1 fun e w' => e = .returned (.bool (okT T)) ∧ Below w1.heap.size w1 w') := fun w1 hb => specTreeOk_any n ⟨T.leaf, .slice a1 T.pairs.length q1, .slice a2 T.cuts.length q2, .slice a3 T.kids.length q3, .slice a4 T.buf.length q4⟩ T w1 (ht.below hb) hsz
  have HC : Hid (∀ w1, Below w.heap.size w w1 → Calls Tryz.prog 56 #[.agg #[.bool T.leaf, .slice a1 T.pairs.length q1, .slice a2 T.cuts.length q2, .slice a3 T.kids.length q3, .slice a4 T.buf.length q4]] w1 fun e w' => ∃ y : TV, e = .returned y.val ∧ TreeD n w' (fun g => w1.heap.size ≤ g) y T ∧ Below w1.heap.size w1 w') := fun w1 hb => copy_all n ⟨T.leaf, .slice a1 T.pairs.length q1, .slice a2 T.cuts.length q2, .slice a3 T.kids.length q3, .slice a4 T.buf.length q4⟩ T w1 (ht.below hb) hsz
  show Calls Tryz.prog 78 #[.agg #[.bool T.leaf, .slice a1 T.pairs.length q1, .slice a2 T.cuts.length q2, .slice a3 T.kids.length q3, .slice a4 T.buf.length q4], .agg #[.int .i64 o, .int .i64 k, .int .i64 v]] w _
  clear ht
  generalize h0 : T.leaf = lf at *
  generalize h1 : T.pairs.length = n1 at *
  generalize h2 : T.cuts.length = n2 at *
  generalize h3 : T.kids.length = n3 at *
  generalize h4 : T.buf.length = n4 at *
  have EF : Hid (T.leaf = lf ∧ T.pairs.length = n1 ∧ T.cuts.length = n2 ∧ T.kids.length = n3 ∧ T.buf.length = n4) := ⟨h0, h1, h2, h3, h4⟩
  clear h0 h1 h2 h3 h4
  have Bw0 : Hid (Below w.heap.size w (((w.alloc (.cells #[.bool lf, .slice a1 n1 q1, .slice a2 n2 q2, .slice a3 n3 q3, .slice a4 n4 q4] 29)).alloc (.cells #[.int .i64 o, .int .i64 k, .int .i64 v] 37)).alloc (.cells #[.bool false, .slice none 0 0, .slice none 0 0, .slice none 0 0, .slice none 0 0] 29))) := al3 _ _ _ _
  have Sw0 : Hid (OneAt (((w.alloc (.cells #[.bool lf, .slice a1 n1 q1, .slice a2 n2 q2, .slice a3 n3 q3, .slice a4 n4 q4] 29)).alloc (.cells #[.int .i64 o, .int .i64 k, .int .i64 v] 37)).alloc (.cells #[.bool false, .slice none 0 0, .slice none 0 0, .slice none 0 0, .slice none 0 0] 29)) w.heap.size #[.bool lf, .slice a1 n1 q1, .slice a2 n2 q2, .slice a3 n3 q3, .slice a4 n4 q4]) := (OneAt.start w _).step (al2 _ _ _)
  have Mw0 : Hid (MsgB (((w.alloc (.cells #[.bool lf, .slice a1 n1 q1, .slice a2 n2 q2, .slice a3 n3 q3, .slice a4 n4 q4] 29)).alloc (.cells #[.int .i64 o, .int .i64 k, .int .i64 v] 37)).alloc (.cells #[.bool false, .slice none 0 0, .slice none 0 0, .slice none 0 0, .slice none 0 0] 29)) (w.heap.size + 1) #[.int .i64 o, .int .i64 k, .int .i64 v]) := by
    have : MsgB ((w.alloc (.cells #[.bool lf, .slice a1 n1 q1, .slice a2 n2 q2, .slice a3 n3 q3, .slice a4 n4 q4] 29)).alloc (.cells #[.int .i64 o, .int .i64 k, .int .i64 v] 37)) (w.alloc (.cells #[.bool lf, .slice a1 n1 q1, .slice a2 n2 q2, .slice a3 n3 q3, .slice a4 n4 q4] 29)).heap.size #[.int .i64 o, .int .i64 k, .int .i64 v] := heap_alloc_new _ _
    rw [World.size_alloc] at this
    exact this.step (al1 _ _)
  have Xw0 : Hid (OneAt (((w.alloc (.cells #[.bool lf, .slice a1 n1 q1, .slice a2 n2 q2, .slice a3 n3 q3, .slice a4 n4 q4] 29)).alloc (.cells #[.int .i64 o, .int .i64 k, .int .i64 v] 37)).alloc (.cells #[.bool false, .slice none 0 0, .slice none 0 0, .slice none 0 0, .slice none 0 0] 29)) (w.heap.size + 2) #[.bool false, .slice none 0 0, .slice none 0 0, .slice none 0 0, .slice none 0 0]) := by
    have := OneAt.start ((w.alloc (.cells #[.bool lf, .slice a1 n1 q1, .slice a2 n2 q2, .slice a3 n3 q3, .slice a4 n4 q4] 29)).alloc (.cells #[.int .i64 o, .int .i64 k, .int .i64 v] 37)) #[.bool false, .slice none 0 0, .slice none 0 0, .slice none 0 0, .slice none 0 0]
    rw [World.size_alloc, World.size_alloc] at this
    exact this
  have Zw0 : Hid (w.heap.size + 3 ≤ (((w.alloc (.cells #[.bool lf, .slice a1 n1 q1, .slice a2 n2 q2, .slice a3 n3 q3, .slice a4 n4 q4] 29)).alloc (.cells #[.int .i64 o, .int .i64 k, .int .i64 v] 37)).alloc (.cells #[.bool false, .slice none 0 0, .slice none 0 0, .slice none 0 0, .slice none 0 0] 29)).heap.size) := by show _ ≤ _; simp
  obtain ⟨c0, c1, c2, c3, c4⟩ := box_cells5 Sw0.out
  have HO1 : Hid _ := HO.out _ Bw0.out
  go_enter Tryz.func78, Tryz.ntmps78
  go_wp2_with fail
  refine Calls.mono HO1.out ?_
  rintro e w1 ⟨rfl, hbw1⟩
  have Bw1 : Hid (Below w.heap.size w w1) := Below.and Bw0.out hbw1
  have Sw1 : Hid (OneAt w1 w.heap.size #[.bool lf, .slice a1 n1 q1, .slice a2 n2 q2, .slice a3 n3 q3, .slice a4 n4 q4]) := Sw0.out.step hbw1
  have Mw1 : Hid (MsgB w1 (w.heap.size + 1) #[.int .i64 o, .int .i64 k, .int .i64 v]) := Mw0.out.step hbw1
  have Xw1 : Hid (OneAt w1 (w.heap.size + 2) #[.bool false, .slice none 0 0, .slice none 0 0, .slice none 0 0, .slice none 0 0]) := Xw0.out.step hbw1
  have Zw1 : Hid (w.heap.size + 3 ≤ w1.heap.size) := Nat.le_trans Zw0.out hbw1.size
  clear c0 c1 c2 c3 c4 HO1 Bw0 Sw0 Mw0 Xw0 Zw0 hbw1 HO
  cases hok : okT T with
  | false =>
    have ED : injF T (o, k, v) = T := by rw [injF, if_neg (by rw [hok]; simp)]
    have HCC : Hid _ := HC.out w1 Bw1.out
    obtain ⟨c0, c1, c2, c3, c4⟩ := box_cells5 Sw1.out
    go_wp2_with fail
    refine Calls.mono HCC.out ?_
    rintro e w1z ⟨y, rfl, TY, hbz⟩
    obtain ⟨ya1, ya2, ya3, ya4, yq1, yq2, yq3, yq4, hyy⟩ := (TY.treeF.treeAt).shape
    subst hyy
    have TZ : Hid (TreeD n w1z (fun g => w1.heap.size ≤ g) _ T) := TY
    have BZ : Hid (Below w.heap.size w w1z) := Below.and Bw1.out hbz
    have XZ : Hid (OneAt w1z (w.heap.size + 2) #[.bool false, .slice none 0 0, .slice none 0 0, .slice none 0 0, .slice none 0 0]) := Xw1.out.step hbz
    have HZ : Hid (w.heap.size + 3 ≤ w1.heap.size) := Zw1
    clear TY hbz HCC c0 c1 c2 c3 c4
    generalize (T).leaf = yl at *
    generalize (T).pairs.length = yn1 at *
    generalize (T).cuts.length = yn2 at *
    generalize (T).kids.length = yn3 at *
    generalize (T).buf.length = yn4 at *
    obtain ⟨⟨m0, m1, m2, m3, m4⟩, k0, k1, k2, k3, k4⟩ := box_all5 XZ.out
    have FIN : Hid (∀ v0 v1 v2 v3 v4, TreeD (n) (set5 w1z (w.heap.size + 2) v0 v1 v2 v3 v4) (fun g => w.heap.size ≤ g) (⟨yl, .slice ya1 yn1 yq1, .slice ya2 yn2 yq2, .slice ya3 yn3 yq3, .slice ya4 yn4 yq4⟩ : TV) (T) ∧ Below w.heap.size w (set5 w1z (w.heap.size + 2) v0 v1 v2 v3 v4)) := fun v0 v1 v2 v3 v4 => by
      have hc := chg_set5 w1z (w.heap.size + 2) v0 v1 v2 v3 v4
      have hz := HZ.out
      exact ⟨(TZ.out.chg hc (fun g hg k => by omega)).mono (fun g hg => by omega), BZ.out.trans (hc.below (fun g _ hg => by omega) BZ.out.size)⟩
    clear TZ XZ
    go_wp2
    refine bodyPost_ret (v := .agg #[.bool yl, .slice ya1 yn1 yq1, .slice ya2 yn2 yq2, .slice ya3 yn3 yq3, .slice ya4 yn4 yq4]) (by simp [results, Tryz.results78, go_sem, m0, m1, m2, m3, m4]) rfl ⟨⟨yl, .slice ya1 yn1 yq1, .slice ya2 yn2 yq2, .slice ya3 yn3 yq3, .slice ya4 yn4 yq4⟩, n, rfl, ?_, (FIN.out _ _ _ _ _).2⟩
    rw [ED]
    exact (FIN.out _ _ _ _ _).1
  | true =>
    obtain ⟨j0, j1, j2⟩ := Mw1.out.three
    have HM : Hid _ := specMsgOk_any o k v w1
    go_wp2_with fail
    refine Calls.mono HM.out ?_
    rintro e w2 ⟨rfl, hbw2⟩
    have Bw2 : Hid (Below w.heap.size w w2) := Below.and Bw1.out hbw2
    have Sw2 : Hid (OneAt w2 w.heap.size #[.bool lf, .slice a1 n1 q1, .slice a2 n2 q2, .slice a3 n3 q3, .slice a4 n4 q4]) := Sw1.out.step hbw2
    have Mw2 : Hid (MsgB w2 (w.heap.size + 1) #[.int .i64 o, .int .i64 k, .int .i64 v]) := Mw1.out.step hbw2
    have Xw2 : Hid (OneAt w2 (w.heap.size + 2) #[.bool false, .slice none 0 0, .slice none 0 0, .slice none 0 0, .slice none 0 0]) := Xw1.out.step hbw2
    have Zw2 : Hid (w.heap.size + 3 ≤ w2.heap.size) := Nat.le_trans Zw1.out hbw2.size
    clear j0 j1 j2 HM Bw1 Sw1 Mw1 Xw1 Zw1 hbw2
    obtain ⟨j0, j1, j2⟩ := Mw2.out.three
    cases hmo : msgOkB o k v with
    | false =>
      have ED : injF T (o, k, v) = T := by rw [injF, if_neg (by simp [hmo])]
      have HCC : Hid _ := HC.out w2 Bw2.out
      obtain ⟨c0, c1, c2, c3, c4⟩ := box_cells5 Sw2.out
      go_wp2_with fail
      refine Calls.mono HCC.out ?_
      rintro e w2z ⟨y, rfl, TY, hbz⟩
      obtain ⟨ya1, ya2, ya3, ya4, yq1, yq2, yq3, yq4, hyy⟩ := (TY.treeF.treeAt).shape
      subst hyy
      have TZ : Hid (TreeD n w2z (fun g => w2.heap.size ≤ g) _ T) := TY
      have BZ : Hid (Below w.heap.size w w2z) := Below.and Bw2.out hbz
      have XZ : Hid (OneAt w2z (w.heap.size + 2) #[.bool false, .slice none 0 0, .slice none 0 0, .slice none 0 0, .slice none 0 0]) := Xw2.out.step hbz
      have HZ : Hid (w.heap.size + 3 ≤ w2.heap.size) := Zw2
      clear TY hbz HCC c0 c1 c2 c3 c4
      generalize (T).leaf = yl at *
      generalize (T).pairs.length = yn1 at *
      generalize (T).cuts.length = yn2 at *
      generalize (T).kids.length = yn3 at *
      generalize (T).buf.length = yn4 at *
      obtain ⟨⟨m0, m1, m2, m3, m4⟩, k0, k1, k2, k3, k4⟩ := box_all5 XZ.out
      have FIN : Hid (∀ v0 v1 v2 v3 v4, TreeD (n) (set5 w2z (w.heap.size + 2) v0 v1 v2 v3 v4) (fun g => w.heap.size ≤ g) (⟨yl, .slice ya1 yn1 yq1, .slice ya2 yn2 yq2, .slice ya3 yn3 yq3, .slice ya4 yn4 yq4⟩ : TV) (T) ∧ Below w.heap.size w (set5 w2z (w.heap.size + 2) v0 v1 v2 v3 v4)) := fun v0 v1 v2 v3 v4 => by
        have hc := chg_set5 w2z (w.heap.size + 2) v0 v1 v2 v3 v4
        have hz := HZ.out
        exact ⟨(TZ.out.chg hc (fun g hg k => by omega)).mono (fun g hg => by omega), BZ.out.trans (hc.below (fun g _ hg => by omega) BZ.out.size)⟩
      clear TZ XZ
      go_wp2
      refine bodyPost_ret (v := .agg #[.bool yl, .slice ya1 yn1 yq1, .slice ya2 yn2 yq2, .slice ya3 yn3 yq3, .slice ya4 yn4 yq4]) (by simp [results, Tryz.results78, go_sem, m0, m1, m2, m3, m4]) rfl ⟨⟨yl, .slice ya1 yn1 yq1, .slice ya2 yn2 yq2, .slice ya3 yn3 yq3, .slice ya4 yn4 yq4⟩, n, rfl, ?_, (FIN.out _ _ _ _ _).2⟩
      rw [ED]
      exact (FIN.out _ _ _ _ _).1
    | true =>
      by_cases ho4 : o = 4
      · have ED : injF T (o, k, v) = T := by rw [injF, if_neg (by simp [ho4])]
        have HCC : Hid _ := HC.out w2 Bw2.out
        obtain ⟨c0, c1, c2, c3, c4⟩ := box_cells5 Sw2.out
        go_wp2_with fail
        refine Calls.mono HCC.out ?_
        rintro e w2z ⟨y, rfl, TY, hbz⟩
        obtain ⟨ya1, ya2, ya3, ya4, yq1, yq2, yq3, yq4, hyy⟩ := (TY.treeF.treeAt).shape
        subst hyy
        have TZ : Hid (TreeD n w2z (fun g => w2.heap.size ≤ g) _ T) := TY
        have BZ : Hid (Below w.heap.size w w2z) := Below.and Bw2.out hbz
        have XZ : Hid (OneAt w2z (w.heap.size + 2) #[.bool false, .slice none 0 0, .slice none 0 0, .slice none 0 0, .slice none 0 0]) := Xw2.out.step hbz
        have HZ : Hid (w.heap.size + 3 ≤ w2.heap.size) := Zw2
        clear TY hbz HCC c0 c1 c2 c3 c4
        generalize (T).leaf = yl at *
        generalize (T).pairs.length = yn1 at *
        generalize (T).cuts.length = yn2 at *
        generalize (T).kids.length = yn3 at *
        generalize (T).buf.length = yn4 at *
        obtain ⟨⟨m0, m1, m2, m3, m4⟩, k0, k1, k2, k3, k4⟩ := box_all5 XZ.out
        have FIN : Hid (∀ v0 v1 v2 v3 v4, TreeD (n) (set5 w2z (w.heap.size + 2) v0 v1 v2 v3 v4) (fun g => w.heap.size ≤ g) (⟨yl, .slice ya1 yn1 yq1, .slice ya2 yn2 yq2, .slice ya3 yn3 yq3, .slice ya4 yn4 yq4⟩ : TV) (T) ∧ Below w.heap.size w (set5 w2z (w.heap.size + 2) v0 v1 v2 v3 v4)) := fun v0 v1 v2 v3 v4 => by
          have hc := chg_set5 w2z (w.heap.size + 2) v0 v1 v2 v3 v4
          have hz := HZ.out
          exact ⟨(TZ.out.chg hc (fun g hg k => by omega)).mono (fun g hg => by omega), BZ.out.trans (hc.below (fun g _ hg => by omega) BZ.out.size)⟩
        clear TZ XZ
        go_wp2
        refine bodyPost_ret (v := .agg #[.bool yl, .slice ya1 yn1 yq1, .slice ya2 yn2 yq2, .slice ya3 yn3 yq3, .slice ya4 yn4 yq4]) (by simp [results, Tryz.results78, go_sem, m0, m1, m2, m3, m4]) rfl ⟨⟨yl, .slice ya1 yn1 yq1, .slice ya2 yn2 yq2, .slice ya3 yn3 yq3, .slice ya4 yn4 yq4⟩, n, rfl, ?_, (FIN.out _ _ _ _ _).2⟩
        rw [ED]
        exact (FIN.out _ _ _ _ _).1
      · have EI : Hid (injF T (o, k, v) = if okT (rootOf (giveM (depthT T) T [(o, k, v)])) = true then rootOf (giveM (depthT T) T [(o, k, v)]) else T) := by show _ = _; rw [injF, if_pos ⟨hok, hmo, ho4⟩]
        obtain ⟨hsh, hd7, hwt⟩ := ok_sh hok
        obtain ⟨e, he1, he2, he3⟩ := give_root (ms := [(o, k, v)]) hsh (by simp)
        obtain ⟨hmm, hmw⟩ := giveM_ok _ _ [(o, k, v)] hsh (by simp)
        simp only [List.length_cons, List.length_nil] at he3 hmw
        have MO : Hid (MOk (depthT T) (giveM (depthT T) T [(o, k, v)])) := hmm
        have SH : Hid (shT (depthT T) T) := hsh
        have WT : Hid (wtL (depthT T) (giveM (depthT T) T [(o, k, v)]).1 ≤ 1000000) := by show _ ≤ _; omega
        have SZ : Hid (sizeT (depthT T + (giveM (depthT T) T [(o, k, v)]).1.length) (rootOf (giveM (depthT T) T [(o, k, v)])) ≤ 1099511627776) := Nat.le_trans (sh_size he2 he1) (by omega)
        have HG4 : Hid (∀ (F : Nat → Prop) (y : TV) (vm : Value) (c : World), TreeF (depthT T) c F y T → Row c vm 1 (flatM [(o, k, v)]) → Calls Tryz.prog 94 #[y.val, vm] c fun e w' => ∃ v1 v2, e = .returned (.agg #[v1, v2]) ∧ TreesF (depthT T) w' (fun b => F b ∨ c.heap.size ≤ b) v1 (giveM (depthT T) T [(o, k, v)]).1 ∧ RowF w' (fun b => F b ∨ c.heap.size ≤ b) v2 (giveM (depthT T) T [(o, k, v)]).2.length (flatI (giveM (depthT T) T [(o, k, v)]).2) ∧ Below c.heap.size c w') := fun F y vm c ht hr => give_all (depthT T) F y T vm [(o, k, v)] c ht hr SH.out (by simp) (by simp only [List.length_cons, List.length_nil]; omega)
        have HR5 : Hid (∀ (F : Nat → Prop) (v1 v2 : Value) (c : World), TreesF (depthT T) c F v1 (giveM (depthT T) T [(o, k, v)]).1 → RowF c F v2 (giveM (depthT T) T [(o, k, v)]).2.length (flatI (giveM (depthT T) T [(o, k, v)]).2) → Calls Tryz.prog 93 #[.agg #[v1, v2]] c fun e w' => ∃ r : TV, e = .returned r.val ∧ TreeF (depthT T + (giveM (depthT T) T [(o, k, v)]).1.length) w' (fun b => F b ∨ c.heap.size ≤ b) r (rootOf (giveM (depthT T) T [(o, k, v)])) ∧ Below c.heap.size c w') := fun F v1 v2 c h1 h2 => l4Root_any (depthT T) F v1 v2 _ c h1 h2 MO.out WT.out
        clear hsh hd7 hwt he1 he2 he3 hmm hmw MO WT
        generalize depthT T + (giveM (depthT T) T [(o, k, v)]).1.length = D at *
        generalize rootOf (giveM (depthT T) T [(o, k, v)]) = R at *
        generalize giveM (depthT T) T [(o, k, v)] = gm at *
        generalize depthT T = d at *
        go_wp2_with fail
        refine wp_gen (fun V => Below w.heap.size w V ∧ OneAt V w.heap.size #[.bool lf, .slice a1 n1 q1, .slice a2 n2 q2, .slice a3 n3 q3, .slice a4 n4 q4] ∧ MsgB V (w.heap.size + 1) #[.int .i64 o, .int .i64 k, .int .i64 v] ∧ OneAt V (w.heap.size + 2) #[.bool false, .slice none 0 0, .slice none 0 0, .slice none 0 0, .slice none 0 0] ∧ w.heap.size + 3 ≤ V.heap.size) ⟨Bw2.out, Sw2.out, Mw2.out, Xw2.out, Zw2.out⟩ ?_
        rintro V ⟨BV0, SV0, MV0, XV0, ZV0⟩
        have BV : Hid (∀ u, Below V.heap.size V u → Below w.heap.size w u) := fun u hu => Below.and BV0 hu
        have SV : Hid (OneAt V w.heap.size #[.bool lf, .slice a1 n1 q1, .slice a2 n2 q2, .slice a3 n3 q3, .slice a4 n4 q4]) := SV0
        have XV : Hid (OneAt V (w.heap.size + 2) #[.bool false, .slice none 0 0, .slice none 0 0, .slice none 0 0, .slice none 0 0]) := XV0
        have VW : Hid (w.heap.size ≤ V.heap.size) := BV0.size
        have ZV : Hid (w.heap.size + 3 ≤ V.heap.size) := ZV0
        have KEEP : Hid (∀ u, Below V.heap.size V u → (u.cell? ⟨w.heap.size, 0, none⟩ = some (.bool lf) ∧ u.cell? ⟨w.heap.size, 1, none⟩ = some (.slice a1 n1 q1) ∧ u.cell? ⟨w.heap.size, 2, none⟩ = some (.slice a2 n2 q2) ∧ u.cell? ⟨w.heap.size, 3, none⟩ = some (.slice a3 n3 q3) ∧ u.cell? ⟨w.heap.size, 4, none⟩ = some (.slice a4 n4 q4)) ∧ u.cell? ⟨w.heap.size + 1, 0, none⟩ = some (.int .i64 o) ∧ u.cell? ⟨w.heap.size + 1, 1, none⟩ = some (.int .i64 k) ∧ u.cell? ⟨w.heap.size + 1, 2, none⟩ = some (.int .i64 v)) := fun u hu => ⟨box_cells5 (SV0.step hu), MsgB.three (MV0.step hu)⟩
        have hS : (V.drew.cell? ⟨w.heap.size, 0, none⟩ = some (.bool lf) ∧ V.drew.cell? ⟨w.heap.size, 1, none⟩ = some (.slice a1 n1 q1) ∧ V.drew.cell? ⟨w.heap.size, 2, none⟩ = some (.slice a2 n2 q2) ∧ V.drew.cell? ⟨w.heap.size, 3, none⟩ = some (.slice a3 n3 q3) ∧ V.drew.cell? ⟨w.heap.size, 4, none⟩ = some (.slice a4 n4 q4)) ∧ V.drew.cell? ⟨w.heap.size + 1, 0, none⟩ = some (.int .i64 o) ∧ V.drew.cell? ⟨w.heap.size + 1, 1, none⟩ = some (.int .i64 k) ∧ V.drew.cell? ⟨w.heap.size + 1, 2, none⟩ = some (.int .i64 v) := KEEP.out _ (Below.refl _ _).drew
        have BC : Hid (Below V.heap.size V V.drew) := (Below.refl _ _).drew
        clear j0 j1 j2 Bw2 Sw2 Mw2 Xw2 Zw2 BV0 SV0 MV0 XV0 ZV0
        go_cut [5] (fun s5 wx => ∃ (N : Nat) (ra1 ra2 ra3 ra4 : Option Addr) (rq1 rq2 rq3 rq4 : Nat), s5 = .pointer (some ⟨N, 0, none⟩) ∧ Hid (OneAt wx N #[.bool R.leaf, .slice ra1 R.pairs.length rq1, .slice ra2 R.cuts.length rq2, .slice ra3 R.kids.length rq3, .slice ra4 R.buf.length rq4]) ∧ Hid (TreeF D wx (fun g => w.heap.size ≤ g) ⟨R.leaf, .slice ra1 R.pairs.length rq1, .slice ra2 R.cuts.length rq2, .slice ra3 R.kids.length rq3, .slice ra4 R.buf.length rq4⟩ R) ∧ Hid (Below V.heap.size V wx))
        case first =>
          refine wp_region_last (fun u => (u.cell? ⟨w.heap.size, 0, none⟩ = some (.bool lf) ∧ u.cell? ⟨w.heap.size, 1, none⟩ = some (.slice a1 n1 q1) ∧ u.cell? ⟨w.heap.size, 2, none⟩ = some (.slice a2 n2 q2) ∧ u.cell? ⟨w.heap.size, 3, none⟩ = some (.slice a3 n3 q3) ∧ u.cell? ⟨w.heap.size, 4, none⟩ = some (.slice a4 n4 q4)) ∧ u.cell? ⟨w.heap.size + 1, 0, none⟩ = some (.int .i64 o) ∧ u.cell? ⟨w.heap.size + 1, 1, none⟩ = some (.int .i64 k) ∧ u.cell? ⟨w.heap.size + 1, 2, none⟩ = some (.int .i64 v)) [_, _, _, _, _, _, _] _ rfl (by kernel_rfl) (by kernel_rfl) ?_
          generalize V.drew = wd at *
          refine wpAnyH_take (i := 0) (oi := ⟨_, _, _, _, _, _⟩) (v := ?_) rfl (by kernel_rfl) (by kernel_rfl) (by kernel_rfl) (fun _ _ _ h => h) (Or.inl ⟨by rfl, ?_⟩) (by assumption) ?_
          rotate_left
          · ((intro w hSw; (try dsimp only at hSw); go_simp); (try with_reducible rfl))
          try simp only [Act.put, List.setIfInBounds_toArray, List.set_cons_zero, List.set_cons_succ]
          refine wpAnyH_take (i := 2) (oi := ⟨_, _, _, _, _, _⟩) (v := ?_) rfl (by kernel_rfl) (by kernel_rfl) (by kernel_rfl) (fun _ _ _ h => h) (Or.inl ⟨by rfl, ?_⟩) (by assumption) ?_
          rotate_left
          · ((intro w hSw; (try dsimp only at hSw); go_simp); (try with_reducible rfl))
          try simp only [Act.put, List.setIfInBounds_toArray, List.set_cons_zero, List.set_cons_succ]
          refine wpAnyH_ready (rs := [1, 3, 6]) (by kernel_rfl) (by simp) ?_
          refine AllReadyH.cons (o := ⟨_, _, _, _, _, _⟩) rfl (fun K hK => ?_) (AllReadyH.cons (o := ⟨_, _, _, _, _, _⟩) rfl (fun K hK => ?_) (AllReadyH.cons (o := ⟨_, _, _, _, _, _⟩) rfl (fun K hK => ?_) AllReadyH.nil))
          · refine step_func rfl 56 [.tmp 21] #[29] rfl run56 [.agg #[.bool lf, .slice a1 n1 q1, .slice a2 n2 q2, .slice a3 n3 q3, .slice a4 n4 q4]] rfl (HC.out wd (BV.out _ BC.out)) ?_
            rintro e x1 ⟨y, rfl, TY0, LL⟩
            obtain ⟨ya1, ya2, ya3, ya4, yq1, yq2, yq3, yq4, hyy⟩ := TY0.treeF.treeAt.shape
            subst hyy
            have TY1 := (TreeD.down SH.out TY0).treeF.lt
            rw [EF.out.1, EF.out.2.1, EF.out.2.2.1, EF.out.2.2.2.1, EF.out.2.2.2.2] at TY1 ⊢
            refine ⟨_, rfl, ?_⟩
            obtain ⟨F1, TY, FL0⟩ : ∃ F1 : Nat → Prop, TreeF d x1 F1 ⟨lf, .slice ya1 n1 yq1, .slice ya2 n2 yq2, .slice ya3 n3 yq3, .slice ya4 n4 yq4⟩ T ∧ ∀ g, F1 g → wd.heap.size ≤ g ∧ g < x1.heap.size := ⟨_, TY1, fun g h => h⟩
            replace TY : Hid (TreeF d x1 F1 ⟨lf, .slice ya1 n1 yq1, .slice ya2 n2 yq2, .slice ya3 n3 yq3, .slice ya4 n4 yq4⟩ T) := TY
            have FL : Hid (∀ g, F1 g → V.heap.size ≤ g ∧ g < x1.heap.size) := fun g hg => ⟨Nat.le_trans BC.out.size (FL0 g hg).1, (FL0 g hg).2⟩
            replace BC : Hid (Below V.heap.size V x1) := Below.and BC.out LL
            clear TY0 TY1 FL0 LL
            refine hK.out _ _ (KEEP.out x1 BC.out) (fun hH => ?_)
            clear hK K
            try simp only [Act.put, List.setIfInBounds_toArray, List.set_cons_zero, List.set_cons_succ]
            clear hH
            refine wpAnyH_ready (rs := [3, 6]) (by kernel_rfl) (by simp) ?_
            refine AllReadyH.cons (o := ⟨_, _, _, _, _, _⟩) rfl (fun K hK => ?_) (AllReadyH.cons (o := ⟨_, _, _, _, _, _⟩) rfl (fun K hK => ?_) AllReadyH.nil)
            · go_simp
              have LL : Below x1.heap.size x1 (x1.alloc (.cells #[.int .i64 o, .int .i64 k, .int .i64 v] 37)) := al1 _ _
              have RM : Hid (Row (x1.alloc (.cells #[.int .i64 o, .int .i64 k, .int .i64 v] 37)) (.slice (some ⟨x1.heap.size, 0, none⟩) 1 1) 1 (flatM [(o, k, v)])) := Row.laid x1 [.int .i64 o, .int .i64 k, .int .i64 v] 37 _ rfl
              replace BC : Hid (Below V.heap.size V (x1.alloc (.cells #[.int .i64 o, .int .i64 k, .int .i64 v] 37))) := Below.and BC.out LL
              replace TY : Hid (TreeF d (x1.alloc (.cells #[.int .i64 o, .int .i64 k, .int .i64 v] 37)) F1 ⟨lf, .slice ya1 n1 yq1, .slice ya2 n2 yq2, .slice ya3 n3 yq3, .slice ya4 n4 yq4⟩ T) := TY.out.below LL
              replace FL : Hid (∀ g, F1 g → V.heap.size ≤ g ∧ g < (x1.alloc (.cells #[.int .i64 o, .int .i64 k, .int .i64 v] 37)).heap.size) := fun g hg => ⟨(FL.out g hg).1, Nat.lt_of_lt_of_le (FL.out g hg).2 LL.size⟩
              clear LL
              refine hK.out _ _ (KEEP.out _ BC.out) (fun hH => ?_)
              clear hK K
              try simp only [Act.put, List.setIfInBounds_toArray, List.set_cons_zero, List.set_cons_succ]
              clear hH
              generalize (x1.alloc (.cells #[.int .i64 o, .int .i64 k, .int .i64 v] 37)) = x2 at *
              refine wpAnyH_ready (rs := [4, 6]) (by kernel_rfl) (by simp) ?_
              refine AllReadyH.cons (o := ⟨_, _, _, _, _, _⟩) rfl (fun K hK => ?_) (AllReadyH.cons (o := ⟨_, _, _, _, _, _⟩) rfl (fun K hK => ?_) AllReadyH.nil)
              · refine step_func rfl 94 [.tmp 22, .tmp 24] #[29, 27] rfl run94 [.agg #[.bool lf, .slice ya1 n1 yq1, .slice ya2 n2 yq2, .slice ya3 n3 yq3, .slice ya4 n4 yq4], .slice (some ⟨x1.heap.size, 0, none⟩) 1 1] rfl (HG4.out F1 ⟨lf, .slice ya1 n1 yq1, .slice ya2 n2 yq2, .slice ya3 n3 yq3, .slice ya4 n4 yq4⟩ (.slice (some ⟨x1.heap.size, 0, none⟩) 1 1) x2 TY.out RM.out) ?_
                rintro e x3 ⟨v1, v2, rfl, T40, R40, LL⟩
                refine ⟨_, rfl, ?_⟩
                obtain ⟨ax, qx, hv1, _⟩ := (show Row x3 v1 gm.1.length _ from (T40.els.choose_spec.2).row).len
                obtain ⟨ay, qy, hv2, _⟩ := R40.row.len
                subst hv1
                subst hv2
                obtain ⟨F4, T41, R41, FL4⟩ : ∃ F4 : Nat → Prop, TreesF d x3 F4 (.slice ax gm.1.length qx) gm.1 ∧ RowF x3 F4 (.slice ay gm.2.length qy) gm.2.length (flatI gm.2) ∧ ∀ g, F4 g → (F1 g ∨ x2.heap.size ≤ g) ∧ g < x3.heap.size := ⟨_, T40.lt, R40.lt (flatI_ne _).2, fun g h => h⟩
                have T4 : Hid (TreesF d x3 F4 (.slice ax gm.1.length qx) gm.1) := T41
                have R4 : Hid (RowF x3 F4 (.slice ay gm.2.length qy) gm.2.length (flatI gm.2)) := R41
                have FL' : Hid (∀ g, F4 g → V.heap.size ≤ g ∧ g < x3.heap.size) := fun g hg => ⟨(FL4 g hg).1.elim (fun h => (FL.out g h).1) (fun h => Nat.le_trans BC.out.size h), (FL4 g hg).2⟩
                clear FL
                have FL := FL'
                replace BC : Hid (Below V.heap.size V x3) := Below.and BC.out LL
                clear T40 R40 FL4 LL TY RM FL' T41 R41
                refine hK.out _ _ (KEEP.out x3 BC.out) (fun hH => ?_)
                clear hK K
                try simp only [Act.put, List.setIfInBounds_toArray, List.set_cons_zero, List.set_cons_succ]
                clear hH
                refine wpAnyH_ready (rs := [5, 6]) (by kernel_rfl) (by simp) ?_
                refine AllReadyH.cons (o := ⟨_, _, _, _, _, _⟩) rfl (fun K hK => ?_) (AllReadyH.cons (o := ⟨_, _, _, _, _, _⟩) rfl (fun K hK => ?_) AllReadyH.nil)
                · refine step_func rfl 93 [.tmp 25] #[125] rfl run93 [.agg #[(.slice ax gm.1.length qx), (.slice ay gm.2.length qy)]] rfl (HR5.out F4 (.slice ax gm.1.length qx) (.slice ay gm.2.length qy) x3 T4.out R4.out) ?_
                  rintro e x4 ⟨r, rfl, T50, LL⟩
                  refine ⟨_, rfl, ?_⟩
                  obtain ⟨ra1, ra2, ra3, ra4, rq1, rq2, rq3, rq4, hyr⟩ := T50.treeAt.shape
                  subst hyr
                  obtain ⟨F5, T51, FL5⟩ : ∃ F5 : Nat → Prop, TreeF D x4 F5 ⟨R.leaf, .slice ra1 R.pairs.length rq1, .slice ra2 R.cuts.length rq2, .slice ra3 R.kids.length rq3, .slice ra4 R.buf.length rq4⟩ R ∧ ∀ g, F5 g → (F4 g ∨ x3.heap.size ≤ g) ∧ g < x4.heap.size := ⟨_, T50.lt, fun g h => h⟩
                  have T5 : Hid (TreeF D x4 F5 ⟨R.leaf, .slice ra1 R.pairs.length rq1, .slice ra2 R.cuts.length rq2, .slice ra3 R.kids.length rq3, .slice ra4 R.buf.length rq4⟩ R) := T51
                  have FL' : Hid (∀ g, F5 g → V.heap.size ≤ g ∧ g < x4.heap.size) := fun g hg => ⟨(FL5 g hg).1.elim (fun h => (FL.out g h).1) (fun h => Nat.le_trans BC.out.size h), (FL5 g hg).2⟩
                  clear FL
                  have FL := FL'
                  replace BC : Hid (Below V.heap.size V x4) := Below.and BC.out LL
                  clear T50 FL5 LL T4 R4 FL' T51
                  refine hK.out _ _ (KEEP.out x4 BC.out) (fun hH => ?_)
                  clear hK K
                  try simp only [Act.put, List.setIfInBounds_toArray, List.set_cons_zero, List.set_cons_succ]
                  clear hH
                  refine wpAnyH_ready (rs := [6]) (by kernel_rfl) (by simp) ?_
                  refine AllReadyH.cons (o := ⟨_, _, _, _, _, _⟩) rfl (fun K hK => ?_) AllReadyH.nil
                  go_simp
                  have LL : Below x4.heap.size x4 (x4.alloc (.cells #[.bool false, .slice none 0 0, .slice none 0 0, .slice none 0 0, .slice none 0 0] 29)) := al1 _ _
                  have XB : Hid (OneAt (x4.alloc (.cells #[.bool false, .slice none 0 0, .slice none 0 0, .slice none 0 0, .slice none 0 0] 29)) x4.heap.size #[.bool false, .slice none 0 0, .slice none 0 0, .slice none 0 0, .slice none 0 0]) := OneAt.start _ _
                  have NL : Hid (x4.heap.size < (x4.alloc (.cells #[.bool false, .slice none 0 0, .slice none 0 0, .slice none 0 0, .slice none 0 0] 29)).heap.size) := by show _ < _; simp
                  have NV : Hid (V.heap.size ≤ x4.heap.size) := BC.out.size
                  have FN : Hid (¬ F5 x4.heap.size) := fun h => by have := (FL.out _ h).2; omega
                  replace BC : Hid (Below V.heap.size V (x4.alloc (.cells #[.bool false, .slice none 0 0, .slice none 0 0, .slice none 0 0, .slice none 0 0] 29))) := Below.and BC.out LL
                  replace T5 : Hid (TreeF D (x4.alloc (.cells #[.bool false, .slice none 0 0, .slice none 0 0, .slice none 0 0, .slice none 0 0] 29)) F5 ⟨R.leaf, .slice ra1 R.pairs.length rq1, .slice ra2 R.cuts.length rq2, .slice ra3 R.kids.length rq3, .slice ra4 R.buf.length rq4⟩ R) := T5.out.below LL
                  replace FL : Hid (∀ g, F5 g → V.heap.size ≤ g ∧ g < (x4.alloc (.cells #[.bool false, .slice none 0 0, .slice none 0 0, .slice none 0 0, .slice none 0 0] 29)).heap.size) := fun g hg => ⟨(FL.out g hg).1, Nat.lt_of_lt_of_le (FL.out g hg).2 LL.size⟩
                  clear LL
                  refine hK.out _ _ (KEEP.out _ BC.out) (fun hH => ?_)
                  clear hK K
                  try simp only [Act.put, List.setIfInBounds_toArray, List.set_cons_zero, List.set_cons_succ]
                  clear hH
                  generalize (x4.alloc (.cells #[.bool false, .slice none 0 0, .slice none 0 0, .slice none 0 0, .slice none 0 0] 29)) = x5 at *
                  obtain ⟨⟨m0, m1, m2, m3, m4⟩, k0, k1, k2, k3, k4⟩ := box_all5 XB.out
                  have FIN : Hid (∀ v0 v1 v2 v3 v4, TreeF D (set5 x5 x4.heap.size v0 v1 v2 v3 v4) (fun g => w.heap.size ≤ g) ⟨R.leaf, .slice ra1 R.pairs.length rq1, .slice ra2 R.cuts.length rq2, .slice ra3 R.kids.length rq3, .slice ra4 R.buf.length rq4⟩ R ∧ Below V.heap.size V (set5 x5 x4.heap.size v0 v1 v2 v3 v4)) := fun v0 v1 v2 v3 v4 => by
                    have hc := chg_set5 x5 x4.heap.size v0 v1 v2 v3 v4
                    exact ⟨(T5.out.chg hc (fun g hg e => FN.out (e ▸ hg))).mono (fun g hg => Nat.le_trans VW.out (FL.out g hg).1), BC.out.trans (hc.below (fun g _ hg => by have := NV.out; omega) BC.out.size)⟩
                  clear T5 FL FN NL
                  refine wpAnyH_done (by kernel_rfl) ?_ _
                  show Oper.wp _ _ _ _ _ _
                  go_simp
                  go_wp2_with fail
                  go_meet
                  case rel => exact ⟨_, ra1, ra2, ra3, ra4, rq1, rq2, rq3, rq4, rfl, XB.out.set5 _ _ _ _ _, (FIN.out _ _ _ _ _).1, (FIN.out _ _ _ _ _).2⟩
                · go_simp
                  have LL : Below x3.heap.size x3 (x3.alloc (.cells #[.bool false, .slice none 0 0, .slice none 0 0, .slice none 0 0, .slice none 0 0] 29)) := al1 _ _
                  have XB : Hid (OneAt (x3.alloc (.cells #[.bool false, .slice none 0 0, .slice none 0 0, .slice none 0 0, .slice none 0 0] 29)) x3.heap.size #[.bool false, .slice none 0 0, .slice none 0 0, .slice none 0 0, .slice none 0 0]) := OneAt.start _ _
                  have NL : Hid (x3.heap.size < (x3.alloc (.cells #[.bool false, .slice none 0 0, .slice none 0 0, .slice none 0 0, .slice none 0 0] 29)).heap.size) := by show _ < _; simp
                  have NV : Hid (V.heap.size ≤ x3.heap.size) := BC.out.size
                  have FN : Hid (¬ F4 x3.heap.size) := fun h => by have := (FL.out _ h).2; omega
                  replace BC : Hid (Below V.heap.size V (x3.alloc (.cells #[.bool false, .slice none 0 0, .slice none 0 0, .slice none 0 0, .slice none 0 0] 29))) := Below.and BC.out LL
                  replace T4 : Hid (TreesF d (x3.alloc (.cells #[.bool false, .slice none 0 0, .slice none 0 0, .slice none 0 0, .slice none 0 0] 29)) F4 (.slice ax gm.1.length qx) gm.1) := T4.out.below LL
                  replace R4 : Hid (RowF (x3.alloc (.cells #[.bool false, .slice none 0 0, .slice none 0 0, .slice none 0 0, .slice none 0 0] 29)) F4 (.slice ay gm.2.length qy) gm.2.length (flatI gm.2)) := R4.out.below LL
                  replace FL : Hid (∀ g, F4 g → V.heap.size ≤ g ∧ g < (x3.alloc (.cells #[.bool false, .slice none 0 0, .slice none 0 0, .slice none 0 0, .slice none 0 0] 29)).heap.size) := fun g hg => ⟨(FL.out g hg).1, Nat.lt_of_lt_of_le (FL.out g hg).2 LL.size⟩
                  clear LL
                  refine hK.out _ _ (KEEP.out _ BC.out) (fun hH => ?_)
                  clear hK K
                  try simp only [Act.put, List.setIfInBounds_toArray, List.set_cons_zero, List.set_cons_succ]
                  clear hH
                  generalize (x3.alloc (.cells #[.bool false, .slice none 0 0, .slice none 0 0, .slice none 0 0, .slice none 0 0] 29)) = x6 at *
                  refine wpAnyH_ready (rs := [5]) (by kernel_rfl) (by simp) ?_
                  refine AllReadyH.cons (o := ⟨_, _, _, _, _, _⟩) rfl (fun K hK => ?_) AllReadyH.nil
                  refine step_func rfl 93 [.tmp 25] #[125] rfl run93 [.agg #[(.slice ax gm.1.length qx), (.slice ay gm.2.length qy)]] rfl (HR5.out F4 (.slice ax gm.1.length qx) (.slice ay gm.2.length qy) x6 T4.out R4.out) ?_
                  rintro e x7 ⟨r, rfl, T50, LL⟩
                  refine ⟨_, rfl, ?_⟩
                  obtain ⟨ra1, ra2, ra3, ra4, rq1, rq2, rq3, rq4, hyr⟩ := T50.treeAt.shape
                  subst hyr
                  obtain ⟨F5, T51, FL5⟩ : ∃ F5 : Nat → Prop, TreeF D x7 F5 ⟨R.leaf, .slice ra1 R.pairs.length rq1, .slice ra2 R.cuts.length rq2, .slice ra3 R.kids.length rq3, .slice ra4 R.buf.length rq4⟩ R ∧ ∀ g, F5 g → (F4 g ∨ x6.heap.size ≤ g) ∧ g < x7.heap.size := ⟨_, T50.lt, fun g h => h⟩
                  have T5 : Hid (TreeF D x7 F5 ⟨R.leaf, .slice ra1 R.pairs.length rq1, .slice ra2 R.cuts.length rq2, .slice ra3 R.kids.length rq3, .slice ra4 R.buf.length rq4⟩ R) := T51
                  have FL' : Hid (∀ g, F5 g → V.heap.size ≤ g ∧ g < x7.heap.size) := fun g hg => ⟨(FL5 g hg).1.elim (fun h => (FL.out g h).1) (fun h => Nat.le_trans BC.out.size h), (FL5 g hg).2⟩
                  have FN' : Hid (¬ F5 x3.heap.size) := fun h => (FL5 _ h).1.elim (fun h => FN.out h) (fun h => by have := NL.out; omega)
                  clear FL FN
                  have FL := FL'
                  have FN := FN'
                  replace BC : Hid (Below V.heap.size V x7) := Below.and BC.out LL
                  replace XB : Hid (OneAt x7 x3.heap.size #[.bool false, .slice none 0 0, .slice none 0 0, .slice none 0 0, .slice none 0 0]) := XB.out.step LL
                  replace NL : Hid (x3.heap.size < x7.heap.size) := Nat.lt_of_lt_of_le NL.out LL.size
                  clear T50 FL5 LL T4 R4 FL' T51 FN'
                  refine hK.out _ _ (KEEP.out x7 BC.out) (fun hH => ?_)
                  clear hK K
                  try simp only [Act.put, List.setIfInBounds_toArray, List.set_cons_zero, List.set_cons_succ]
                  clear hH
                  obtain ⟨⟨m0, m1, m2, m3, m4⟩, k0, k1, k2, k3, k4⟩ := box_all5 XB.out
                  have FIN : Hid (∀ v0 v1 v2 v3 v4, TreeF D (set5 x7 x3.heap.size v0 v1 v2 v3 v4) (fun g => w.heap.size ≤ g) ⟨R.leaf, .slice ra1 R.pairs.length rq1, .slice ra2 R.cuts.length rq2, .slice ra3 R.kids.length rq3, .slice ra4 R.buf.length rq4⟩ R ∧ Below V.heap.size V (set5 x7 x3.heap.size v0 v1 v2 v3 v4)) := fun v0 v1 v2 v3 v4 => by
                    have hc := chg_set5 x7 x3.heap.size v0 v1 v2 v3 v4
                    exact ⟨(T5.out.chg hc (fun g hg e => FN.out (e ▸ hg))).mono (fun g hg => Nat.le_trans VW.out (FL.out g hg).1), BC.out.trans (hc.below (fun g _ hg => by have := NV.out; omega) BC.out.size)⟩
                  clear T5 FL FN NL
                  refine wpAnyH_done (by kernel_rfl) ?_ _
                  show Oper.wp _ _ _ _ _ _
                  go_simp
                  go_wp2_with fail
                  go_meet
                  case rel => exact ⟨_, ra1, ra2, ra3, ra4, rq1, rq2, rq3, rq4, rfl, XB.out.set5 _ _ _ _ _, (FIN.out _ _ _ _ _).1, (FIN.out _ _ _ _ _).2⟩
              · go_simp
                have LL : Below x2.heap.size x2 (x2.alloc (.cells #[.bool false, .slice none 0 0, .slice none 0 0, .slice none 0 0, .slice none 0 0] 29)) := al1 _ _
                have XB : Hid (OneAt (x2.alloc (.cells #[.bool false, .slice none 0 0, .slice none 0 0, .slice none 0 0, .slice none 0 0] 29)) x2.heap.size #[.bool false, .slice none 0 0, .slice none 0 0, .slice none 0 0, .slice none 0 0]) := OneAt.start _ _
                have NL : Hid (x2.heap.size < (x2.alloc (.cells #[.bool false, .slice none 0 0, .slice none 0 0, .slice none 0 0, .slice none 0 0] 29)).heap.size) := by show _ < _; simp
                have NV : Hid (V.heap.size ≤ x2.heap.size) := BC.out.size
                have FN : Hid (¬ F1 x2.heap.size) := fun h => by have := (FL.out _ h).2; omega
                replace BC : Hid (Below V.heap.size V (x2.alloc (.cells #[.bool false, .slice none 0 0, .slice none 0 0, .slice none 0 0, .slice none 0 0] 29))) := Below.and BC.out LL
                replace TY : Hid (TreeF d (x2.alloc (.cells #[.bool false, .slice none 0 0, .slice none 0 0, .slice none 0 0, .slice none 0 0] 29)) F1 ⟨lf, .slice ya1 n1 yq1, .slice ya2 n2 yq2, .slice ya3 n3 yq3, .slice ya4 n4 yq4⟩ T) := TY.out.below LL
                replace FL : Hid (∀ g, F1 g → V.heap.size ≤ g ∧ g < (x2.alloc (.cells #[.bool false, .slice none 0 0, .slice none 0 0, .slice none 0 0, .slice none 0 0] 29)).heap.size) := fun g hg => ⟨(FL.out g hg).1, Nat.lt_of_lt_of_le (FL.out g hg).2 LL.size⟩
                replace RM : Hid (Row (x2.alloc (.cells #[.bool false, .slice none 0 0, .slice none 0 0, .slice none 0 0, .slice none 0 0] 29)) (.slice (some ⟨x1.heap.size, 0, none⟩) 1 1) 1 (flatM [(o, k, v)])) := RM.out.below LL
                clear LL
                refine hK.out _ _ (KEEP.out _ BC.out) (fun hH => ?_)
                clear hK K
                try simp only [Act.put, List.setIfInBounds_toArray, List.set_cons_zero, List.set_cons_succ]
                clear hH
                generalize (x2.alloc (.cells #[.bool false, .slice none 0 0, .slice none 0 0, .slice none 0 0, .slice none 0 0] 29)) = x8 at *
                refine wpAnyH_ready (rs := [4]) (by kernel_rfl) (by simp) ?_
                refine AllReadyH.cons (o := ⟨_, _, _, _, _, _⟩) rfl (fun K hK => ?_) AllReadyH.nil
                refine step_func rfl 94 [.tmp 22, .tmp 24] #[29, 27] rfl run94 [.agg #[.bool lf, .slice ya1 n1 yq1, .slice ya2 n2 yq2, .slice ya3 n3 yq3, .slice ya4 n4 yq4], .slice (some ⟨x1.heap.size, 0, none⟩) 1 1] rfl (HG4.out F1 ⟨lf, .slice ya1 n1 yq1, .slice ya2 n2 yq2, .slice ya3 n3 yq3, .slice ya4 n4 yq4⟩ (.slice (some ⟨x1.heap.size, 0, none⟩) 1 1) x8 TY.out RM.out) ?_
                rintro e x9 ⟨v1, v2, rfl, T40, R40, LL⟩
                refine ⟨_, rfl, ?_⟩
                obtain ⟨ax, qx, hv1, _⟩ := (show Row x9 v1 gm.1.length _ from (T40.els.choose_spec.2).row).len
                obtain ⟨ay, qy, hv2, _⟩ := R40.row.len
                subst hv1
                subst hv2
                obtain ⟨F4, T41, R41, FL4⟩ : ∃ F4 : Nat → Prop, TreesF d x9 F4 (.slice ax gm.1.length qx) gm.1 ∧ RowF x9 F4 (.slice ay gm.2.length qy) gm.2.length (flatI gm.2) ∧ ∀ g, F4 g → (F1 g ∨ x8.heap.size ≤ g) ∧ g < x9.heap.size := ⟨_, T40.lt, R40.lt (flatI_ne _).2, fun g h => h⟩
                have T4 : Hid (TreesF d x9 F4 (.slice ax gm.1.length qx) gm.1) := T41
                have R4 : Hid (RowF x9 F4 (.slice ay gm.2.length qy) gm.2.length (flatI gm.2)) := R41
                have FL' : Hid (∀ g, F4 g → V.heap.size ≤ g ∧ g < x9.heap.size) := fun g hg => ⟨(FL4 g hg).1.elim (fun h => (FL.out g h).1) (fun h => Nat.le_trans BC.out.size h), (FL4 g hg).2⟩
                have FN' : Hid (¬ F4 x2.heap.size) := fun h => (FL4 _ h).1.elim (fun h => FN.out h) (fun h => by have := NL.out; omega)
                clear FL FN
                have FL := FL'
                have FN := FN'
                replace BC : Hid (Below V.heap.size V x9) := Below.and BC.out LL
                replace XB : Hid (OneAt x9 x2.heap.size #[.bool false, .slice none 0 0, .slice none 0 0, .slice none 0 0, .slice none 0 0]) := XB.out.step LL
                replace NL : Hid (x2.heap.size < x9.heap.size) := Nat.lt_of_lt_of_le NL.out LL.size
                clear T40 R40 FL4 LL TY RM FL' T41 R41 FN'
                refine hK.out _ _ (KEEP.out x9 BC.out) (fun hH => ?_)
                clear hK K
                try simp only [Act.put, List.setIfInBounds_toArray, List.set_cons_zero, List.set_cons_succ]
                clear hH
                refine wpAnyH_ready (rs := [5]) (by kernel_rfl) (by simp) ?_
                refine AllReadyH.cons (o := ⟨_, _, _, _, _, _⟩) rfl (fun K hK => ?_) AllReadyH.nil
                refine step_func rfl 93 [.tmp 25] #[125] rfl run93 [.agg #[(.slice ax gm.1.length qx), (.slice ay gm.2.length qy)]] rfl (HR5.out F4 (.slice ax gm.1.length qx) (.slice ay gm.2.length qy) x9 T4.out R4.out) ?_
                rintro e x10 ⟨r, rfl, T50, LL⟩
                refine ⟨_, rfl, ?_⟩
                obtain ⟨ra1, ra2, ra3, ra4, rq1, rq2, rq3, rq4, hyr⟩ := T50.treeAt.shape
                subst hyr
                obtain ⟨F5, T51, FL5⟩ : ∃ F5 : Nat → Prop, TreeF D x10 F5 ⟨R.leaf, .slice ra1 R.pairs.length rq1, .slice ra2 R.cuts.length rq2, .slice ra3 R.kids.length rq3, .slice ra4 R.buf.length rq4⟩ R ∧ ∀ g, F5 g → (F4 g ∨ x9.heap.size ≤ g) ∧ g < x10.heap.size := ⟨_, T50.lt, fun g h => h⟩
                have T5 : Hid (TreeF D x10 F5 ⟨R.leaf, .slice ra1 R.pairs.length rq1, .slice ra2 R.cuts.length rq2, .slice ra3 R.kids.length rq3, .slice ra4 R.buf.length rq4⟩ R) := T51
                have FL' : Hid (∀ g, F5 g → V.heap.size ≤ g ∧ g < x10.heap.size) := fun g hg => ⟨(FL5 g hg).1.elim (fun h => (FL.out g h).1) (fun h => Nat.le_trans BC.out.size h), (FL5 g hg).2⟩
                have FN' : Hid (¬ F5 x2.heap.size) := fun h => (FL5 _ h).1.elim (fun h => FN.out h) (fun h => by have := NL.out; omega)
                clear FL FN
                have FL := FL'
                have FN := FN'
                replace BC : Hid (Below V.heap.size V x10) := Below.and BC.out LL
                replace XB : Hid (OneAt x10 x2.heap.size #[.bool false, .slice none 0 0, .slice none 0 0, .slice none 0 0, .slice none 0 0]) := XB.out.step LL
                replace NL : Hid (x2.heap.size < x10.heap.size) := Nat.lt_of_lt_of_le NL.out LL.size
                clear T50 FL5 LL T4 R4 FL' T51 FN'
                refine hK.out _ _ (KEEP.out x10 BC.out) (fun hH => ?_)
                clear hK K
                try simp only [Act.put, List.setIfInBounds_toArray, List.set_cons_zero, List.set_cons_succ]
                clear hH
                obtain ⟨⟨m0, m1, m2, m3, m4⟩, k0, k1, k2, k3, k4⟩ := box_all5 XB.out
                have FIN : Hid (∀ v0 v1 v2 v3 v4, TreeF D (set5 x10 x2.heap.size v0 v1 v2 v3 v4) (fun g => w.heap.size ≤ g) ⟨R.leaf, .slice ra1 R.pairs.length rq1, .slice ra2 R.cuts.length rq2, .slice ra3 R.kids.length rq3, .slice ra4 R.buf.length rq4⟩ R ∧ Below V.heap.size V (set5 x10 x2.heap.size v0 v1 v2 v3 v4)) := fun v0 v1 v2 v3 v4 => by
                  have hc := chg_set5 x10 x2.heap.size v0 v1 v2 v3 v4
                  exact ⟨(T5.out.chg hc (fun g hg e => FN.out (e ▸ hg))).mono (fun g hg => Nat.le_trans VW.out (FL.out g hg).1), BC.out.trans (hc.below (fun g _ hg => by have := NV.out; omega) BC.out.size)⟩
                clear T5 FL FN NL
                refine wpAnyH_done (by kernel_rfl) ?_ _
                show Oper.wp _ _ _ _ _ _
                go_simp
                go_wp2_with fail
                go_meet
                case rel => exact ⟨_, ra1, ra2, ra3, ra4, rq1, rq2, rq3, rq4, rfl, XB.out.set5 _ _ _ _ _, (FIN.out _ _ _ _ _).1, (FIN.out _ _ _ _ _).2⟩
            · go_simp
              have LL : Below x1.heap.size x1 (x1.alloc (.cells #[.bool false, .slice none 0 0, .slice none 0 0, .slice none 0 0, .slice none 0 0] 29)) := al1 _ _
              have XB : Hid (OneAt (x1.alloc (.cells #[.bool false, .slice none 0 0, .slice none 0 0, .slice none 0 0, .slice none 0 0] 29)) x1.heap.size #[.bool false, .slice none 0 0, .slice none 0 0, .slice none 0 0, .slice none 0 0]) := OneAt.start _ _
              have NL : Hid (x1.heap.size < (x1.alloc (.cells #[.bool false, .slice none 0 0, .slice none 0 0, .slice none 0 0, .slice none 0 0] 29)).heap.size) := by show _ < _; simp
              have NV : Hid (V.heap.size ≤ x1.heap.size) := BC.out.size
              have FN : Hid (¬ F1 x1.heap.size) := fun h => by have := (FL.out _ h).2; omega
              replace BC : Hid (Below V.heap.size V (x1.alloc (.cells #[.bool false, .slice none 0 0, .slice none 0 0, .slice none 0 0, .slice none 0 0] 29))) := Below.and BC.out LL
              replace TY : Hid (TreeF d (x1.alloc (.cells #[.bool false, .slice none 0 0, .slice none 0 0, .slice none 0 0, .slice none 0 0] 29)) F1 ⟨lf, .slice ya1 n1 yq1, .slice ya2 n2 yq2, .slice ya3 n3 yq3, .slice ya4 n4 yq4⟩ T) := TY.out.below LL
              replace FL : Hid (∀ g, F1 g → V.heap.size ≤ g ∧ g < (x1.alloc (.cells #[.bool false, .slice none 0 0, .slice none 0 0, .slice none 0 0, .slice none 0 0] 29)).heap.size) := fun g hg => ⟨(FL.out g hg).1, Nat.lt_of_lt_of_le (FL.out g hg).2 LL.size⟩
              clear LL
              refine hK.out _ _ (KEEP.out _ BC.out) (fun hH => ?_)
              clear hK K
              try simp only [Act.put, List.setIfInBounds_toArray, List.set_cons_zero, List.set_cons_succ]
              clear hH
              generalize (x1.alloc (.cells #[.bool false, .slice none 0 0, .slice none 0 0, .slice none 0 0, .slice none 0 0] 29)) = x11 at *
              refine wpAnyH_ready (rs := [3]) (by kernel_rfl) (by simp) ?_
              refine AllReadyH.cons (o := ⟨_, _, _, _, _, _⟩) rfl (fun K hK => ?_) AllReadyH.nil
              go_simp
              have LL : Below x11.heap.size x11 (x11.alloc (.cells #[.int .i64 o, .int .i64 k, .int .i64 v] 37)) := al1 _ _
              have RM : Hid (Row (x11.alloc (.cells #[.int .i64 o, .int .i64 k, .int .i64 v] 37)) (.slice (some ⟨x11.heap.size, 0, none⟩) 1 1) 1 (flatM [(o, k, v)])) := Row.laid x11 [.int .i64 o, .int .i64 k, .int .i64 v] 37 _ rfl
              replace BC : Hid (Below V.heap.size V (x11.alloc (.cells #[.int .i64 o, .int .i64 k, .int .i64 v] 37))) := Below.and BC.out LL
              replace TY : Hid (TreeF d (x11.alloc (.cells #[.int .i64 o, .int .i64 k, .int .i64 v] 37)) F1 ⟨lf, .slice ya1 n1 yq1, .slice ya2 n2 yq2, .slice ya3 n3 yq3, .slice ya4 n4 yq4⟩ T) := TY.out.below LL
              replace FL : Hid (∀ g, F1 g → V.heap.size ≤ g ∧ g < (x11.alloc (.cells #[.int .i64 o, .int .i64 k, .int .i64 v] 37)).heap.size) := fun g hg => ⟨(FL.out g hg).1, Nat.lt_of_lt_of_le (FL.out g hg).2 LL.size⟩
              replace XB : Hid (OneAt (x11.alloc (.cells #[.int .i64 o, .int .i64 k, .int .i64 v] 37)) x1.heap.size #[.bool false, .slice none 0 0, .slice none 0 0, .slice none 0 0, .slice none 0 0]) := XB.out.step LL
              replace NL : Hid (x1.heap.size < (x11.alloc (.cells #[.int .i64 o, .int .i64 k, .int .i64 v] 37)).heap.size) := Nat.lt_of_lt_of_le NL.out LL.size
              clear LL
              refine hK.out _ _ (KEEP.out _ BC.out) (fun hH => ?_)
              clear hK K
              try simp only [Act.put, List.setIfInBounds_toArray, List.set_cons_zero, List.set_cons_succ]
              clear hH
              generalize (x11.alloc (.cells #[.int .i64 o, .int .i64 k, .int .i64 v] 37)) = x12 at *
              refine wpAnyH_ready (rs := [4]) (by kernel_rfl) (by simp) ?_
              refine AllReadyH.cons (o := ⟨_, _, _, _, _, _⟩) rfl (fun K hK => ?_) AllReadyH.nil
              refine step_func rfl 94 [.tmp 22, .tmp 24] #[29, 27] rfl run94 [.agg #[.bool lf, .slice ya1 n1 yq1, .slice ya2 n2 yq2, .slice ya3 n3 yq3, .slice ya4 n4 yq4], .slice (some ⟨x11.heap.size, 0, none⟩) 1 1] rfl (HG4.out F1 ⟨lf, .slice ya1 n1 yq1, .slice ya2 n2 yq2, .slice ya3 n3 yq3, .slice ya4 n4 yq4⟩ (.slice (some ⟨x11.heap.size, 0, none⟩) 1 1) x12 TY.out RM.out) ?_
              rintro e x13 ⟨v1, v2, rfl, T40, R40, LL⟩
              refine ⟨_, rfl, ?_⟩
              obtain ⟨ax, qx, hv1, _⟩ := (show Row x13 v1 gm.1.length _ from (T40.els.choose_spec.2).row).len
              obtain ⟨ay, qy, hv2, _⟩ := R40.row.len
              subst hv1
              subst hv2
              obtain ⟨F4, T41, R41, FL4⟩ : ∃ F4 : Nat → Prop, TreesF d x13 F4 (.slice ax gm.1.length qx) gm.1 ∧ RowF x13 F4 (.slice ay gm.2.length qy) gm.2.length (flatI gm.2) ∧ ∀ g, F4 g → (F1 g ∨ x12.heap.size ≤ g) ∧ g < x13.heap.size := ⟨_, T40.lt, R40.lt (flatI_ne _).2, fun g h => h⟩
              have T4 : Hid (TreesF d x13 F4 (.slice ax gm.1.length qx) gm.1) := T41
              have R4 : Hid (RowF x13 F4 (.slice ay gm.2.length qy) gm.2.length (flatI gm.2)) := R41
              have FL' : Hid (∀ g, F4 g → V.heap.size ≤ g ∧ g < x13.heap.size) := fun g hg => ⟨(FL4 g hg).1.elim (fun h => (FL.out g h).1) (fun h => Nat.le_trans BC.out.size h), (FL4 g hg).2⟩
              have FN' : Hid (¬ F4 x1.heap.size) := fun h => (FL4 _ h).1.elim (fun h => FN.out h) (fun h => by have := NL.out; omega)
              clear FL FN
              have FL := FL'
              have FN := FN'
              replace BC : Hid (Below V.heap.size V x13) := Below.and BC.out LL
              replace XB : Hid (OneAt x13 x1.heap.size #[.bool false, .slice none 0 0, .slice none 0 0, .slice none 0 0, .slice none 0 0]) := XB.out.step LL
              replace NL : Hid (x1.heap.size < x13.heap.size) := Nat.lt_of_lt_of_le NL.out LL.size
              clear T40 R40 FL4 LL TY RM FL' T41 R41 FN'
              refine hK.out _ _ (KEEP.out x13 BC.out) (fun hH => ?_)
              clear hK K
              try simp only [Act.put, List.setIfInBounds_toArray, List.set_cons_zero, List.set_cons_succ]
              clear hH
              refine wpAnyH_ready (rs := [5]) (by kernel_rfl) (by simp) ?_
              refine AllReadyH.cons (o := ⟨_, _, _, _, _, _⟩) rfl (fun K hK => ?_) AllReadyH.nil
              refine step_func rfl 93 [.tmp 25] #[125] rfl run93 [.agg #[(.slice ax gm.1.length qx), (.slice ay gm.2.length qy)]] rfl (HR5.out F4 (.slice ax gm.1.length qx) (.slice ay gm.2.length qy) x13 T4.out R4.out) ?_
              rintro e x14 ⟨r, rfl, T50, LL⟩
              refine ⟨_, rfl, ?_⟩
              obtain ⟨ra1, ra2, ra3, ra4, rq1, rq2, rq3, rq4, hyr⟩ := T50.treeAt.shape
              subst hyr
              obtain ⟨F5, T51, FL5⟩ : ∃ F5 : Nat → Prop, TreeF D x14 F5 ⟨R.leaf, .slice ra1 R.pairs.length rq1, .slice ra2 R.cuts.length rq2, .slice ra3 R.kids.length rq3, .slice ra4 R.buf.length rq4⟩ R ∧ ∀ g, F5 g → (F4 g ∨ x13.heap.size ≤ g) ∧ g < x14.heap.size := ⟨_, T50.lt, fun g h => h⟩
              have T5 : Hid (TreeF D x14 F5 ⟨R.leaf, .slice ra1 R.pairs.length rq1, .slice ra2 R.cuts.length rq2, .slice ra3 R.kids.length rq3, .slice ra4 R.buf.length rq4⟩ R) := T51
              have FL' : Hid (∀ g, F5 g → V.heap.size ≤ g ∧ g < x14.heap.size) := fun g hg => ⟨(FL5 g hg).1.elim (fun h => (FL.out g h).1) (fun h => Nat.le_trans BC.out.size h), (FL5 g hg).2⟩
              have FN' : Hid (¬ F5 x1.heap.size) := fun h => (FL5 _ h).1.elim (fun h => FN.out h) (fun h => by have := NL.out; omega)
              clear FL FN
              have FL := FL'
              have FN := FN'
              replace BC : Hid (Below V.heap.size V x14) := Below.and BC.out LL
              replace XB : Hid (OneAt x14 x1.heap.size #[.bool false, .slice none 0 0, .slice none 0 0, .slice none 0 0, .slice none 0 0]) := XB.out.step LL
              replace NL : Hid (x1.heap.size < x14.heap.size) := Nat.lt_of_lt_of_le NL.out LL.size
              clear T50 FL5 LL T4 R4 FL' T51 FN'
              refine hK.out _ _ (KEEP.out x14 BC.out) (fun hH => ?_)
              clear hK K
              try simp only [Act.put, List.setIfInBounds_toArray, List.set_cons_zero, List.set_cons_succ]
              clear hH
              obtain ⟨⟨m0, m1, m2, m3, m4⟩, k0, k1, k2, k3, k4⟩ := box_all5 XB.out
              have FIN : Hid (∀ v0 v1 v2 v3 v4, TreeF D (set5 x14 x1.heap.size v0 v1 v2 v3 v4) (fun g => w.heap.size ≤ g) ⟨R.leaf, .slice ra1 R.pairs.length rq1, .slice ra2 R.cuts.length rq2, .slice ra3 R.kids.length rq3, .slice ra4 R.buf.length rq4⟩ R ∧ Below V.heap.size V (set5 x14 x1.heap.size v0 v1 v2 v3 v4)) := fun v0 v1 v2 v3 v4 => by
                have hc := chg_set5 x14 x1.heap.size v0 v1 v2 v3 v4
                exact ⟨(T5.out.chg hc (fun g hg e => FN.out (e ▸ hg))).mono (fun g hg => Nat.le_trans VW.out (FL.out g hg).1), BC.out.trans (hc.below (fun g _ hg => by have := NV.out; omega) BC.out.size)⟩
              clear T5 FL FN NL
              refine wpAnyH_done (by kernel_rfl) ?_ _
              show Oper.wp _ _ _ _ _ _
              go_simp
              go_wp2_with fail
              go_meet
              case rel => exact ⟨_, ra1, ra2, ra3, ra4, rq1, rq2, rq3, rq4, rfl, XB.out.set5 _ _ _ _ _, (FIN.out _ _ _ _ _).1, (FIN.out _ _ _ _ _).2⟩
          · go_simp
            have LL : Below wd.heap.size wd (wd.alloc (.cells #[.int .i64 o, .int .i64 k, .int .i64 v] 37)) := al1 _ _
            have RM : Hid (Row (wd.alloc (.cells #[.int .i64 o, .int .i64 k, .int .i64 v] 37)) (.slice (some ⟨wd.heap.size, 0, none⟩) 1 1) 1 (flatM [(o, k, v)])) := Row.laid wd [.int .i64 o, .int .i64 k, .int .i64 v] 37 _ rfl
            replace BC : Hid (Below V.heap.size V (wd.alloc (.cells #[.int .i64 o, .int .i64 k, .int .i64 v] 37))) := Below.and BC.out LL
            clear LL
            refine hK.out _ _ (KEEP.out _ BC.out) (fun hH => ?_)
            clear hK K
            try simp only [Act.put, List.setIfInBounds_toArray, List.set_cons_zero, List.set_cons_succ]
            clear hH
            generalize (wd.alloc (.cells #[.int .i64 o, .int .i64 k, .int .i64 v] 37)) = x15 at *
            refine wpAnyH_ready (rs := [1, 6]) (by kernel_rfl) (by simp) ?_
            refine AllReadyH.cons (o := ⟨_, _, _, _, _, _⟩) rfl (fun K hK => ?_) (AllReadyH.cons (o := ⟨_, _, _, _, _, _⟩) rfl (fun K hK => ?_) AllReadyH.nil)
            · refine step_func rfl 56 [.tmp 21] #[29] rfl run56 [.agg #[.bool lf, .slice a1 n1 q1, .slice a2 n2 q2, .slice a3 n3 q3, .slice a4 n4 q4]] rfl (HC.out x15 (BV.out _ BC.out)) ?_
              rintro e x16 ⟨y, rfl, TY0, LL⟩
              obtain ⟨ya1, ya2, ya3, ya4, yq1, yq2, yq3, yq4, hyy⟩ := TY0.treeF.treeAt.shape
              subst hyy
              have TY1 := (TreeD.down SH.out TY0).treeF.lt
              rw [EF.out.1, EF.out.2.1, EF.out.2.2.1, EF.out.2.2.2.1, EF.out.2.2.2.2] at TY1 ⊢
              refine ⟨_, rfl, ?_⟩
              obtain ⟨F1, TY, FL0⟩ : ∃ F1 : Nat → Prop, TreeF d x16 F1 ⟨lf, .slice ya1 n1 yq1, .slice ya2 n2 yq2, .slice ya3 n3 yq3, .slice ya4 n4 yq4⟩ T ∧ ∀ g, F1 g → x15.heap.size ≤ g ∧ g < x16.heap.size := ⟨_, TY1, fun g h => h⟩
              replace TY : Hid (TreeF d x16 F1 ⟨lf, .slice ya1 n1 yq1, .slice ya2 n2 yq2, .slice ya3 n3 yq3, .slice ya4 n4 yq4⟩ T) := TY
              have FL : Hid (∀ g, F1 g → V.heap.size ≤ g ∧ g < x16.heap.size) := fun g hg => ⟨Nat.le_trans BC.out.size (FL0 g hg).1, (FL0 g hg).2⟩
              replace BC : Hid (Below V.heap.size V x16) := Below.and BC.out LL
              replace RM : Hid (Row x16 (.slice (some ⟨wd.heap.size, 0, none⟩) 1 1) 1 (flatM [(o, k, v)])) := RM.out.below LL
              clear TY0 TY1 FL0 LL
              refine hK.out _ _ (KEEP.out x16 BC.out) (fun hH => ?_)
              clear hK K
              try simp only [Act.put, List.setIfInBounds_toArray, List.set_cons_zero, List.set_cons_succ]
              clear hH
              refine wpAnyH_ready (rs := [4, 6]) (by kernel_rfl) (by simp) ?_
              refine AllReadyH.cons (o := ⟨_, _, _, _, _, _⟩) rfl (fun K hK => ?_) (AllReadyH.cons (o := ⟨_, _, _, _, _, _⟩) rfl (fun K hK => ?_) AllReadyH.nil)
              · refine step_func rfl 94 [.tmp 22, .tmp 24] #[29, 27] rfl run94 [.agg #[.bool lf, .slice ya1 n1 yq1, .slice ya2 n2 yq2, .slice ya3 n3 yq3, .slice ya4 n4 yq4], .slice (some ⟨wd.heap.size, 0, none⟩) 1 1] rfl (HG4.out F1 ⟨lf, .slice ya1 n1 yq1, .slice ya2 n2 yq2, .slice ya3 n3 yq3, .slice ya4 n4 yq4⟩ (.slice (some ⟨wd.heap.size, 0, none⟩) 1 1) x16 TY.out RM.out) ?_
                rintro e x17 ⟨v1, v2, rfl, T40, R40, LL⟩
                refine ⟨_, rfl, ?_⟩
                obtain ⟨ax, qx, hv1, _⟩ := (show Row x17 v1 gm.1.length _ from (T40.els.choose_spec.2).row).len
                obtain ⟨ay, qy, hv2, _⟩ := R40.row.len
                subst hv1
                subst hv2
                obtain ⟨F4, T41, R41, FL4⟩ : ∃ F4 : Nat → Prop, TreesF d x17 F4 (.slice ax gm.1.length qx) gm.1 ∧ RowF x17 F4 (.slice ay gm.2.length qy) gm.2.length (flatI gm.2) ∧ ∀ g, F4 g → (F1 g ∨ x16.heap.size ≤ g) ∧ g < x17.heap.size := ⟨_, T40.lt, R40.lt (flatI_ne _).2, fun g h => h⟩
                have T4 : Hid (TreesF d x17 F4 (.slice ax gm.1.length qx) gm.1) := T41
                have R4 : Hid (RowF x17 F4 (.slice ay gm.2.length qy) gm.2.length (flatI gm.2)) := R41
                have FL' : Hid (∀ g, F4 g → V.heap.size ≤ g ∧ g < x17.heap.size) := fun g hg => ⟨(FL4 g hg).1.elim (fun h => (FL.out g h).1) (fun h => Nat.le_trans BC.out.size h), (FL4 g hg).2⟩
                clear FL
                have FL := FL'
                replace BC : Hid (Below V.heap.size V x17) := Below.and BC.out LL
                clear T40 R40 FL4 LL TY RM FL' T41 R41
                refine hK.out _ _ (KEEP.out x17 BC.out) (fun hH => ?_)
                clear hK K
                try simp only [Act.put, List.setIfInBounds_toArray, List.set_cons_zero, List.set_cons_succ]
                clear hH
                refine wpAnyH_ready (rs := [5, 6]) (by kernel_rfl) (by simp) ?_
                refine AllReadyH.cons (o := ⟨_, _, _, _, _, _⟩) rfl (fun K hK => ?_) (AllReadyH.cons (o := ⟨_, _, _, _, _, _⟩) rfl (fun K hK => ?_) AllReadyH.nil)
                · refine step_func rfl 93 [.tmp 25] #[125] rfl run93 [.agg #[(.slice ax gm.1.length qx), (.slice ay gm.2.length qy)]] rfl (HR5.out F4 (.slice ax gm.1.length qx) (.slice ay gm.2.length qy) x17 T4.out R4.out) ?_
                  rintro e x18 ⟨r, rfl, T50, LL⟩
                  refine ⟨_, rfl, ?_⟩
                  obtain ⟨ra1, ra2, ra3, ra4, rq1, rq2, rq3, rq4, hyr⟩ := T50.treeAt.shape
                  subst hyr
                  obtain ⟨F5, T51, FL5⟩ : ∃ F5 : Nat → Prop, TreeF D x18 F5 ⟨R.leaf, .slice ra1 R.pairs.length rq1, .slice ra2 R.cuts.length rq2, .slice ra3 R.kids.length rq3, .slice ra4 R.buf.length rq4⟩ R ∧ ∀ g, F5 g → (F4 g ∨ x17.heap.size ≤ g) ∧ g < x18.heap.size := ⟨_, T50.lt, fun g h => h⟩
                  have T5 : Hid (TreeF D x18 F5 ⟨R.leaf, .slice ra1 R.pairs.length rq1, .slice ra2 R.cuts.length rq2, .slice ra3 R.kids.length rq3, .slice ra4 R.buf.length rq4⟩ R) := T51
                  have FL' : Hid (∀ g, F5 g → V.heap.size ≤ g ∧ g < x18.heap.size) := fun g hg => ⟨(FL5 g hg).1.elim (fun h => (FL.out g h).1) (fun h => Nat.le_trans BC.out.size h), (FL5 g hg).2⟩
                  clear FL
                  have FL := FL'
                  replace BC : Hid (Below V.heap.size V x18) := Below.and BC.out LL
                  clear T50 FL5 LL T4 R4 FL' T51
                  refine hK.out _ _ (KEEP.out x18 BC.out) (fun hH => ?_)
                  clear hK K
                  try simp only [Act.put, List.setIfInBounds_toArray, List.set_cons_zero, List.set_cons_succ]
                  clear hH
                  refine wpAnyH_ready (rs := [6]) (by kernel_rfl) (by simp) ?_
                  refine AllReadyH.cons (o := ⟨_, _, _, _, _, _⟩) rfl (fun K hK => ?_) AllReadyH.nil
                  go_simp
                  have LL : Below x18.heap.size x18 (x18.alloc (.cells #[.bool false, .slice none 0 0, .slice none 0 0, .slice none 0 0, .slice none 0 0] 29)) := al1 _ _
                  have XB : Hid (OneAt (x18.alloc (.cells #[.bool false, .slice none 0 0, .slice none 0 0, .slice none 0 0, .slice none 0 0] 29)) x18.heap.size #[.bool false, .slice none 0 0, .slice none 0 0, .slice none 0 0, .slice none 0 0]) := OneAt.start _ _
                  have NL : Hid (x18.heap.size < (x18.alloc (.cells #[.bool false, .slice none 0 0, .slice none 0 0, .slice none 0 0, .slice none 0 0] 29)).heap.size) := by show _ < _; simp
                  have NV : Hid (V.heap.size ≤ x18.heap.size) := BC.out.size
                  have FN : Hid (¬ F5 x18.heap.size) := fun h => by have := (FL.out _ h).2; omega
                  replace BC : Hid (Below V.heap.size V (x18.alloc (.cells #[.bool false, .slice none 0 0, .slice none 0 0, .slice none 0 0, .slice none 0 0] 29))) := Below.and BC.out LL
                  replace T5 : Hid (TreeF D (x18.alloc (.cells #[.bool false, .slice none 0 0, .slice none 0 0, .slice none 0 0, .slice none 0 0] 29)) F5 ⟨R.leaf, .slice ra1 R.pairs.length rq1, .slice ra2 R.cuts.length rq2, .slice ra3 R.kids.length rq3, .slice ra4 R.buf.length rq4⟩ R) := T5.out.below LL
                  replace FL : Hid (∀ g, F5 g → V.heap.size ≤ g ∧ g < (x18.alloc (.cells #[.bool false, .slice none 0 0, .slice none 0 0, .slice none 0 0, .slice none 0 0] 29)).heap.size) := fun g hg => ⟨(FL.out g hg).1, Nat.lt_of_lt_of_le (FL.out g hg).2 LL.size⟩
                  clear LL
                  refine hK.out _ _ (KEEP.out _ BC.out) (fun hH => ?_)
                  clear hK K
                  try simp only [Act.put, List.setIfInBounds_toArray, List.set_cons_zero, List.set_cons_succ]
                  clear hH
                  generalize (x18.alloc (.cells #[.bool false, .slice none 0 0, .slice none 0 0, .slice none 0 0, .slice none 0 0] 29)) = x19 at *
                  obtain ⟨⟨m0, m1, m2, m3, m4⟩, k0, k1, k2, k3, k4⟩ := box_all5 XB.out
                  have FIN : Hid (∀ v0 v1 v2 v3 v4, TreeF D (set5 x19 x18.heap.size v0 v1 v2 v3 v4) (fun g => w.heap.size ≤ g) ⟨R.leaf, .slice ra1 R.pairs.length rq1, .slice ra2 R.cuts.length rq2, .slice ra3 R.kids.length rq3, .slice ra4 R.buf.length rq4⟩ R ∧ Below V.heap.size V (set5 x19 x18.heap.size v0 v1 v2 v3 v4)) := fun v0 v1 v2 v3 v4 => by
                    have hc := chg_set5 x19 x18.heap.size v0 v1 v2 v3 v4
                    exact ⟨(T5.out.chg hc (fun g hg e => FN.out (e ▸ hg))).mono (fun g hg => Nat.le_trans VW.out (FL.out g hg).1), BC.out.trans (hc.below (fun g _ hg => by have := NV.out; omega) BC.out.size)⟩
                  clear T5 FL FN NL
                  refine wpAnyH_done (by kernel_rfl) ?_ _
                  show Oper.wp _ _ _ _ _ _
                  go_simp
                  go_wp2_with fail
                  go_meet
                  case rel => exact ⟨_, ra1, ra2, ra3, ra4, rq1, rq2, rq3, rq4, rfl, XB.out.set5 _ _ _ _ _, (FIN.out _ _ _ _ _).1, (FIN.out _ _ _ _ _).2⟩
                · go_simp
                  have LL : Below x17.heap.size x17 (x17.alloc (.cells #[.bool false, .slice none 0 0, .slice none 0 0, .slice none 0 0, .slice none 0 0] 29)) := al1 _ _
                  have XB : Hid (OneAt (x17.alloc (.cells #[.bool false, .slice none 0 0, .slice none 0 0, .slice none 0 0, .slice none 0 0] 29)) x17.heap.size #[.bool false, .slice none 0 0, .slice none 0 0, .slice none 0 0, .slice none 0 0]) := OneAt.start _ _
                  have NL : Hid (x17.heap.size < (x17.alloc (.cells #[.bool false, .slice none 0 0, .slice none 0 0, .slice none 0 0, .slice none 0 0] 29)).heap.size) := by show _ < _; simp
                  have NV : Hid (V.heap.size ≤ x17.heap.size) := BC.out.size
                  have FN : Hid (¬ F4 x17.heap.size) := fun h => by have := (FL.out _ h).2; omega
                  replace BC : Hid (Below V.heap.size V (x17.alloc (.cells #[.bool false, .slice none 0 0, .slice none 0 0, .slice none 0 0, .slice none 0 0] 29))) := Below.and BC.out LL
                  replace T4 : Hid (TreesF d (x17.alloc (.cells #[.bool false, .slice none 0 0, .slice none 0 0, .slice none 0 0, .slice none 0 0] 29)) F4 (.slice ax gm.1.length qx) gm.1) := T4.out.below LL
                  replace R4 : Hid (RowF (x17.alloc (.cells #[.bool false, .slice none 0 0, .slice none 0 0, .slice none 0 0, .slice none 0 0] 29)) F4 (.slice ay gm.2.length qy) gm.2.length (flatI gm.2)) := R4.out.below LL
                  replace FL : Hid (∀ g, F4 g → V.heap.size ≤ g ∧ g < (x17.alloc (.cells #[.bool false, .slice none 0 0, .slice none 0 0, .slice none 0 0, .slice none 0 0] 29)).heap.size) := fun g hg => ⟨(FL.out g hg).1, Nat.lt_of_lt_of_le (FL.out g hg).2 LL.size⟩
                  clear LL
                  refine hK.out _ _ (KEEP.out _ BC.out) (fun hH => ?_)
                  clear hK K
                  try simp only [Act.put, List.setIfInBounds_toArray, List.set_cons_zero, List.set_cons_succ]
                  clear hH
                  generalize (x17.alloc (.cells #[.bool false, .slice none 0 0, .slice none 0 0, .slice none 0 0, .slice none 0 0] 29)) = x20 at *
                  refine wpAnyH_ready (rs := [5]) (by kernel_rfl) (by simp) ?_
                  refine AllReadyH.cons (o := ⟨_, _, _, _, _, _⟩) rfl (fun K hK => ?_) AllReadyH.nil
                  refine step_func rfl 93 [.tmp 25] #[125] rfl run93 [.agg #[(.slice ax gm.1.length qx), (.slice ay gm.2.length qy)]] rfl (HR5.out F4 (.slice ax gm.1.length qx) (.slice ay gm.2.length qy) x20 T4.out R4.out) ?_
                  rintro e x21 ⟨r, rfl, T50, LL⟩
                  refine ⟨_, rfl, ?_⟩
                  obtain ⟨ra1, ra2, ra3, ra4, rq1, rq2, rq3, rq4, hyr⟩ := T50.treeAt.shape
                  subst hyr
                  obtain ⟨F5, T51, FL5⟩ : ∃ F5 : Nat → Prop, TreeF D x21 F5 ⟨R.leaf, .slice ra1 R.pairs.length rq1, .slice ra2 R.cuts.length rq2, .slice ra3 R.kids.length rq3, .slice ra4 R.buf.length rq4⟩ R ∧ ∀ g, F5 g → (F4 g ∨ x20.heap.size ≤ g) ∧ g < x21.heap.size := ⟨_, T50.lt, fun g h => h⟩
                  have T5 : Hid (TreeF D x21 F5 ⟨R.leaf, .slice ra1 R.pairs.length rq1, .slice ra2 R.cuts.length rq2, .slice ra3 R.kids.length rq3, .slice ra4 R.buf.length rq4⟩ R) := T51
                  have FL' : Hid (∀ g, F5 g → V.heap.size ≤ g ∧ g < x21.heap.size) := fun g hg => ⟨(FL5 g hg).1.elim (fun h => (FL.out g h).1) (fun h => Nat.le_trans BC.out.size h), (FL5 g hg).2⟩
                  have FN' : Hid (¬ F5 x17.heap.size) := fun h => (FL5 _ h).1.elim (fun h => FN.out h) (fun h => by have := NL.out; omega)
                  clear FL FN
                  have FL := FL'
                  have FN := FN'
                  replace BC : Hid (Below V.heap.size V x21) := Below.and BC.out LL
                  replace XB : Hid (OneAt x21 x17.heap.size #[.bool false, .slice none 0 0, .slice none 0 0, .slice none 0 0, .slice none 0 0]) := XB.out.step LL
                  replace NL : Hid (x17.heap.size < x21.heap.size) := Nat.lt_of_lt_of_le NL.out LL.size
                  clear T50 FL5 LL T4 R4 FL' T51 FN'
                  refine hK.out _ _ (KEEP.out x21 BC.out) (fun hH => ?_)
                  clear hK K
                  try simp only [Act.put, List.setIfInBounds_toArray, List.set_cons_zero, List.set_cons_succ]
                  clear hH
                  obtain ⟨⟨m0, m1, m2, m3, m4⟩, k0, k1, k2, k3, k4⟩ := box_all5 XB.out
                  have FIN : Hid (∀ v0 v1 v2 v3 v4, TreeF D (set5 x21 x17.heap.size v0 v1 v2 v3 v4) (fun g => w.heap.size ≤ g) ⟨R.leaf, .slice ra1 R.pairs.length rq1, .slice ra2 R.cuts.length rq2, .slice ra3 R.kids.length rq3, .slice ra4 R.buf.length rq4⟩ R ∧ Below V.heap.size V (set5 x21 x17.heap.size v0 v1 v2 v3 v4)) := fun v0 v1 v2 v3 v4 => by
                    have hc := chg_set5 x21 x17.heap.size v0 v1 v2 v3 v4
                    exact ⟨(T5.out.chg hc (fun g hg e => FN.out (e ▸ hg))).mono (fun g hg => Nat.le_trans VW.out (FL.out g hg).1), BC.out.trans (hc.below (fun g _ hg => by have := NV.out; omega) BC.out.size)⟩
                  clear T5 FL FN NL
                  refine wpAnyH_done (by kernel_rfl) ?_ _
                  show Oper.wp _ _ _ _ _ _
                  go_simp
                  go_wp2_with fail
                  go_meet
                  case rel => exact ⟨_, ra1, ra2, ra3, ra4, rq1, rq2, rq3, rq4, rfl, XB.out.set5 _ _ _ _ _, (FIN.out _ _ _ _ _).1, (FIN.out _ _ _ _ _).2⟩
              · go_simp
                have LL : Below x16.heap.size x16 (x16.alloc (.cells #[.bool false, .slice none 0 0, .slice none 0 0, .slice none 0 0, .slice none 0 0] 29)) := al1 _ _
                have XB : Hid (OneAt (x16.alloc (.cells #[.bool false, .slice none 0 0, .slice none 0 0, .slice none 0 0, .slice none 0 0] 29)) x16.heap.size #[.bool false, .slice none 0 0, .slice none 0 0, .slice none 0 0, .slice none 0 0]) := OneAt.start _ _
                have NL : Hid (x16.heap.size < (x16.alloc (.cells #[.bool false, .slice none 0 0, .slice none 0 0, .slice none 0 0, .slice none 0 0] 29)).heap.size) := by show _ < _; simp
                have NV : Hid (V.heap.size ≤ x16.heap.size) := BC.out.size
                have FN : Hid (¬ F1 x16.heap.size) := fun h => by have := (FL.out _ h).2; omega
                replace BC : Hid (Below V.heap.size V (x16.alloc (.cells #[.bool false, .slice none 0 0, .slice none 0 0, .slice none 0 0, .slice none 0 0] 29))) := Below.and BC.out LL
                replace TY : Hid (TreeF d (x16.alloc (.cells #[.bool false, .slice none 0 0, .slice none 0 0, .slice none 0 0, .slice none 0 0] 29)) F1 ⟨lf, .slice ya1 n1 yq1, .slice ya2 n2 yq2, .slice ya3 n3 yq3, .slice ya4 n4 yq4⟩ T) := TY.out.below LL
                replace FL : Hid (∀ g, F1 g → V.heap.size ≤ g ∧ g < (x16.alloc (.cells #[.bool false, .slice none 0 0, .slice none 0 0, .slice none 0 0, .slice none 0 0] 29)).heap.size) := fun g hg => ⟨(FL.out g hg).1, Nat.lt_of_lt_of_le (FL.out g hg).2 LL.size⟩
                replace RM : Hid (Row (x16.alloc (.cells #[.bool false, .slice none 0 0, .slice none 0 0, .slice none 0 0, .slice none 0 0] 29)) (.slice (some ⟨wd.heap.size, 0, none⟩) 1 1) 1 (flatM [(o, k, v)])) := RM.out.below LL
                clear LL
                refine hK.out _ _ (KEEP.out _ BC.out) (fun hH => ?_)
                clear hK K
                try simp only [Act.put, List.setIfInBounds_toArray, List.set_cons_zero, List.set_cons_succ]
                clear hH
                generalize (x16.alloc (.cells #[.bool false, .slice none 0 0, .slice none 0 0, .slice none 0 0, .slice none 0 0] 29)) = x22 at *
                refine wpAnyH_ready (rs := [4]) (by kernel_rfl) (by simp) ?_
                refine AllReadyH.cons (o := ⟨_, _, _, _, _, _⟩) rfl (fun K hK => ?_) AllReadyH.nil
                refine step_func rfl 94 [.tmp 22, .tmp 24] #[29, 27] rfl run94 [.agg #[.bool lf, .slice ya1 n1 yq1, .slice ya2 n2 yq2, .slice ya3 n3 yq3, .slice ya4 n4 yq4], .slice (some ⟨wd.heap.size, 0, none⟩) 1 1] rfl (HG4.out F1 ⟨lf, .slice ya1 n1 yq1, .slice ya2 n2 yq2, .slice ya3 n3 yq3, .slice ya4 n4 yq4⟩ (.slice (some ⟨wd.heap.size, 0, none⟩) 1 1) x22 TY.out RM.out) ?_
                rintro e x23 ⟨v1, v2, rfl, T40, R40, LL⟩
                refine ⟨_, rfl, ?_⟩
                obtain ⟨ax, qx, hv1, _⟩ := (show Row x23 v1 gm.1.length _ from (T40.els.choose_spec.2).row).len
                obtain ⟨ay, qy, hv2, _⟩ := R40.row.len
                subst hv1
                subst hv2
                obtain ⟨F4, T41, R41, FL4⟩ : ∃ F4 : Nat → Prop, TreesF d x23 F4 (.slice ax gm.1.length qx) gm.1 ∧ RowF x23 F4 (.slice ay gm.2.length qy) gm.2.length (flatI gm.2) ∧ ∀ g, F4 g → (F1 g ∨ x22.heap.size ≤ g) ∧ g < x23.heap.size := ⟨_, T40.lt, R40.lt (flatI_ne _).2, fun g h => h⟩
                have T4 : Hid (TreesF d x23 F4 (.slice ax gm.1.length qx) gm.1) := T41
                have R4 : Hid (RowF x23 F4 (.slice ay gm.2.length qy) gm.2.length (flatI gm.2)) := R41
                have FL' : Hid (∀ g, F4 g → V.heap.size ≤ g ∧ g < x23.heap.size) := fun g hg => ⟨(FL4 g hg).1.elim (fun h => (FL.out g h).1) (fun h => Nat.le_trans BC.out.size h), (FL4 g hg).2⟩
                have FN' : Hid (¬ F4 x16.heap.size) := fun h => (FL4 _ h).1.elim (fun h => FN.out h) (fun h => by have := NL.out; omega)
                clear FL FN
                have FL := FL'
                have FN := FN'
                replace BC : Hid (Below V.heap.size V x23) := Below.and BC.out LL
                replace XB : Hid (OneAt x23 x16.heap.size #[.bool false, .slice none 0 0, .slice none 0 0, .slice none 0 0, .slice none 0 0]) := XB.out.step LL
                replace NL : Hid (x16.heap.size < x23.heap.size) := Nat.lt_of_lt_of_le NL.out LL.size
                clear T40 R40 FL4 LL TY RM FL' T41 R41 FN'
                refine hK.out _ _ (KEEP.out x23 BC.out) (fun hH => ?_)
                clear hK K
                try simp only [Act.put, List.setIfInBounds_toArray, List.set_cons_zero, List.set_cons_succ]
                clear hH
                refine wpAnyH_ready (rs := [5]) (by kernel_rfl) (by simp) ?_
                refine AllReadyH.cons (o := ⟨_, _, _, _, _, _⟩) rfl (fun K hK => ?_) AllReadyH.nil
                refine step_func rfl 93 [.tmp 25] #[125] rfl run93 [.agg #[(.slice ax gm.1.length qx), (.slice ay gm.2.length qy)]] rfl (HR5.out F4 (.slice ax gm.1.length qx) (.slice ay gm.2.length qy) x23 T4.out R4.out) ?_
                rintro e x24 ⟨r, rfl, T50, LL⟩
                refine ⟨_, rfl, ?_⟩
                obtain ⟨ra1, ra2, ra3, ra4, rq1, rq2, rq3, rq4, hyr⟩ := T50.treeAt.shape
                subst hyr
                obtain ⟨F5, T51, FL5⟩ : ∃ F5 : Nat → Prop, TreeF D x24 F5 ⟨R.leaf, .slice ra1 R.pairs.length rq1, .slice ra2 R.cuts.length rq2, .slice ra3 R.kids.length rq3, .slice ra4 R.buf.length rq4⟩ R ∧ ∀ g, F5 g → (F4 g ∨ x23.heap.size ≤ g) ∧ g < x24.heap.size := ⟨_, T50.lt, fun g h => h⟩
                have T5 : Hid (TreeF D x24 F5 ⟨R.leaf, .slice ra1 R.pairs.length rq1, .slice ra2 R.cuts.length rq2, .slice ra3 R.kids.length rq3, .slice ra4 R.buf.length rq4⟩ R) := T51
                have FL' : Hid (∀ g, F5 g → V.heap.size ≤ g ∧ g < x24.heap.size) := fun g hg => ⟨(FL5 g hg).1.elim (fun h => (FL.out g h).1) (fun h => Nat.le_trans BC.out.size h), (FL5 g hg).2⟩
                have FN' : Hid (¬ F5 x16.heap.size) := fun h => (FL5 _ h).1.elim (fun h => FN.out h) (fun h => by have := NL.out; omega)
                clear FL FN
                have FL := FL'
                have FN := FN'
                replace BC : Hid (Below V.heap.size V x24) := Below.and BC.out LL
                replace XB : Hid (OneAt x24 x16.heap.size #[.bool false, .slice none 0 0, .slice none 0 0, .slice none 0 0, .slice none 0 0]) := XB.out.step LL
                replace NL : Hid (x16.heap.size < x24.heap.size) := Nat.lt_of_lt_of_le NL.out LL.size
                clear T50 FL5 LL T4 R4 FL' T51 FN'
                refine hK.out _ _ (KEEP.out x24 BC.out) (fun hH => ?_)
                clear hK K
                try simp only [Act.put, List.setIfInBounds_toArray, List.set_cons_zero, List.set_cons_succ]
                clear hH
                obtain ⟨⟨m0, m1, m2, m3, m4⟩, k0, k1, k2, k3, k4⟩ := box_all5 XB.out
                have FIN : Hid (∀ v0 v1 v2 v3 v4, TreeF D (set5 x24 x16.heap.size v0 v1 v2 v3 v4) (fun g => w.heap.size ≤ g) ⟨R.leaf, .slice ra1 R.pairs.length rq1, .slice ra2 R.cuts.length rq2, .slice ra3 R.kids.length rq3, .slice ra4 R.buf.length rq4⟩ R ∧ Below V.heap.size V (set5 x24 x16.heap.size v0 v1 v2 v3 v4)) := fun v0 v1 v2 v3 v4 => by
                  have hc := chg_set5 x24 x16.heap.size v0 v1 v2 v3 v4
                  exact ⟨(T5.out.chg hc (fun g hg e => FN.out (e ▸ hg))).mono (fun g hg => Nat.le_trans VW.out (FL.out g hg).1), BC.out.trans (hc.below (fun g _ hg => by have := NV.out; omega) BC.out.size)⟩
                clear T5 FL FN NL
                refine wpAnyH_done (by kernel_rfl) ?_ _
                show Oper.wp _ _ _ _ _ _
                go_simp
                go_wp2_with fail
                go_meet
                case rel => exact ⟨_, ra1, ra2, ra3, ra4, rq1, rq2, rq3, rq4, rfl, XB.out.set5 _ _ _ _ _, (FIN.out _ _ _ _ _).1, (FIN.out _ _ _ _ _).2⟩
            · go_simp
              have LL : Below x15.heap.size x15 (x15.alloc (.cells #[.bool false, .slice none 0 0, .slice none 0 0, .slice none 0 0, .slice none 0 0] 29)) := al1 _ _
              have XB : Hid (OneAt (x15.alloc (.cells #[.bool false, .slice none 0 0, .slice none 0 0, .slice none 0 0, .slice none 0 0] 29)) x15.heap.size #[.bool false, .slice none 0 0, .slice none 0 0, .slice none 0 0, .slice none 0 0]) := OneAt.start _ _
              have NL : Hid (x15.heap.size < (x15.alloc (.cells #[.bool false, .slice none 0 0, .slice none 0 0, .slice none 0 0, .slice none 0 0] 29)).heap.size) := by show _ < _; simp
              have NV : Hid (V.heap.size ≤ x15.heap.size) := BC.out.size
              replace BC : Hid (Below V.heap.size V (x15.alloc (.cells #[.bool false, .slice none 0 0, .slice none 0 0, .slice none 0 0, .slice none 0 0] 29))) := Below.and BC.out LL
              replace RM : Hid (Row (x15.alloc (.cells #[.bool false, .slice none 0 0, .slice none 0 0, .slice none 0 0, .slice none 0 0] 29)) (.slice (some ⟨wd.heap.size, 0, none⟩) 1 1) 1 (flatM [(o, k, v)])) := RM.out.below LL
              clear LL
              refine hK.out _ _ (KEEP.out _ BC.out) (fun hH => ?_)
              clear hK K
              try simp only [Act.put, List.setIfInBounds_toArray, List.set_cons_zero, List.set_cons_succ]
              clear hH
              generalize (x15.alloc (.cells #[.bool false, .slice none 0 0, .slice none 0 0, .slice none 0 0, .slice none 0 0] 29)) = x25 at *
              refine wpAnyH_ready (rs := [1]) (by kernel_rfl) (by simp) ?_
              refine AllReadyH.cons (o := ⟨_, _, _, _, _, _⟩) rfl (fun K hK => ?_) AllReadyH.nil
              refine step_func rfl 56 [.tmp 21] #[29] rfl run56 [.agg #[.bool lf, .slice a1 n1 q1, .slice a2 n2 q2, .slice a3 n3 q3, .slice a4 n4 q4]] rfl (HC.out x25 (BV.out _ BC.out)) ?_
              rintro e x26 ⟨y, rfl, TY0, LL⟩
              obtain ⟨ya1, ya2, ya3, ya4, yq1, yq2, yq3, yq4, hyy⟩ := TY0.treeF.treeAt.shape
              subst hyy
              have TY1 := (TreeD.down SH.out TY0).treeF.lt
              rw [EF.out.1, EF.out.2.1, EF.out.2.2.1, EF.out.2.2.2.1, EF.out.2.2.2.2] at TY1 ⊢
              refine ⟨_, rfl, ?_⟩
              obtain ⟨F1, TY, FL0⟩ : ∃ F1 : Nat → Prop, TreeF d x26 F1 ⟨lf, .slice ya1 n1 yq1, .slice ya2 n2 yq2, .slice ya3 n3 yq3, .slice ya4 n4 yq4⟩ T ∧ ∀ g, F1 g → x25.heap.size ≤ g ∧ g < x26.heap.size := ⟨_, TY1, fun g h => h⟩
              replace TY : Hid (TreeF d x26 F1 ⟨lf, .slice ya1 n1 yq1, .slice ya2 n2 yq2, .slice ya3 n3 yq3, .slice ya4 n4 yq4⟩ T) := TY
              have FL : Hid (∀ g, F1 g → V.heap.size ≤ g ∧ g < x26.heap.size) := fun g hg => ⟨Nat.le_trans BC.out.size (FL0 g hg).1, (FL0 g hg).2⟩
              have FN : Hid (¬ F1 x15.heap.size) := fun h => by have := (FL0 _ h).1; have := NL.out; omega
              replace BC : Hid (Below V.heap.size V x26) := Below.and BC.out LL
              replace RM : Hid (Row x26 (.slice (some ⟨wd.heap.size, 0, none⟩) 1 1) 1 (flatM [(o, k, v)])) := RM.out.below LL
              replace XB : Hid (OneAt x26 x15.heap.size #[.bool false, .slice none 0 0, .slice none 0 0, .slice none 0 0, .slice none 0 0]) := XB.out.step LL
              replace NL : Hid (x15.heap.size < x26.heap.size) := Nat.lt_of_lt_of_le NL.out LL.size
              clear TY0 TY1 FL0 LL
              refine hK.out _ _ (KEEP.out x26 BC.out) (fun hH => ?_)
              clear hK K
              try simp only [Act.put, List.setIfInBounds_toArray, List.set_cons_zero, List.set_cons_succ]
              clear hH
              refine wpAnyH_ready (rs := [4]) (by kernel_rfl) (by simp) ?_
              refine AllReadyH.cons (o := ⟨_, _, _, _, _, _⟩) rfl (fun K hK => ?_) AllReadyH.nil
              refine step_func rfl 94 [.tmp 22, .tmp 24] #[29, 27] rfl run94 [.agg #[.bool lf, .slice ya1 n1 yq1, .slice ya2 n2 yq2, .slice ya3 n3 yq3, .slice ya4 n4 yq4], .slice (some ⟨wd.heap.size, 0, none⟩) 1 1] rfl (HG4.out F1 ⟨lf, .slice ya1 n1 yq1, .slice ya2 n2 yq2, .slice ya3 n3 yq3, .slice ya4 n4 yq4⟩ (.slice (some ⟨wd.heap.size, 0, none⟩) 1 1) x26 TY.out RM.out) ?_
              rintro e x27 ⟨v1, v2, rfl, T40, R40, LL⟩
              refine ⟨_, rfl, ?_⟩
              obtain ⟨ax, qx, hv1, _⟩ := (show Row x27 v1 gm.1.length _ from (T40.els.choose_spec.2).row).len
              obtain ⟨ay, qy, hv2, _⟩ := R40.row.len
              subst hv1
              subst hv2
              obtain ⟨F4, T41, R41, FL4⟩ : ∃ F4 : Nat → Prop, TreesF d x27 F4 (.slice ax gm.1.length qx) gm.1 ∧ RowF x27 F4 (.slice ay gm.2.length qy) gm.2.length (flatI gm.2) ∧ ∀ g, F4 g → (F1 g ∨ x26.heap.size ≤ g) ∧ g < x27.heap.size := ⟨_, T40.lt, R40.lt (flatI_ne _).2, fun g h => h⟩
              have T4 : Hid (TreesF d x27 F4 (.slice ax gm.1.length qx) gm.1) := T41
              have R4 : Hid (RowF x27 F4 (.slice ay gm.2.length qy) gm.2.length (flatI gm.2)) := R41
              have FL' : Hid (∀ g, F4 g → V.heap.size ≤ g ∧ g < x27.heap.size) := fun g hg => ⟨(FL4 g hg).1.elim (fun h => (FL.out g h).1) (fun h => Nat.le_trans BC.out.size h), (FL4 g hg).2⟩
              have FN' : Hid (¬ F4 x15.heap.size) := fun h => (FL4 _ h).1.elim (fun h => FN.out h) (fun h => by have := NL.out; omega)
              clear FL FN
              have FL := FL'
              have FN := FN'
              replace BC : Hid (Below V.heap.size V x27) := Below.and BC.out LL
              replace XB : Hid (OneAt x27 x15.heap.size #[.bool false, .slice none 0 0, .slice none 0 0, .slice none 0 0, .slice none 0 0]) := XB.out.step LL
              replace NL : Hid (x15.heap.size < x27.heap.size) := Nat.lt_of_lt_of_le NL.out LL.size
              clear T40 R40 FL4 LL TY RM FL' T41 R41 FN'
              refine hK.out _ _ (KEEP.out x27 BC.out) (fun hH => ?_)
              clear hK K
              try simp only [Act.put, List.setIfInBounds_toArray, List.set_cons_zero, List.set_cons_succ]
              clear hH
              refine wpAnyH_ready (rs := [5]) (by kernel_rfl) (by simp) ?_
              refine AllReadyH.cons (o := ⟨_, _, _, _, _, _⟩) rfl (fun K hK => ?_) AllReadyH.nil
              refine step_func rfl 93 [.tmp 25] #[125] rfl run93 [.agg #[(.slice ax gm.1.length qx), (.slice ay gm.2.length qy)]] rfl (HR5.out F4 (.slice ax gm.1.length qx) (.slice ay gm.2.length qy) x27 T4.out R4.out) ?_
              rintro e x28 ⟨r, rfl, T50, LL⟩
              refine ⟨_, rfl, ?_⟩
              obtain ⟨ra1, ra2, ra3, ra4, rq1, rq2, rq3, rq4, hyr⟩ := T50.treeAt.shape
              subst hyr
              obtain ⟨F5, T51, FL5⟩ : ∃ F5 : Nat → Prop, TreeF D x28 F5 ⟨R.leaf, .slice ra1 R.pairs.length rq1, .slice ra2 R.cuts.length rq2, .slice ra3 R.kids.length rq3, .slice ra4 R.buf.length rq4⟩ R ∧ ∀ g, F5 g → (F4 g ∨ x27.heap.size ≤ g) ∧ g < x28.heap.size := ⟨_, T50.lt, fun g h => h⟩
              have T5 : Hid (TreeF D x28 F5 ⟨R.leaf, .slice ra1 R.pairs.length rq1, .slice ra2 R.cuts.length rq2, .slice ra3 R.kids.length rq3, .slice ra4 R.buf.length rq4⟩ R) := T51
              have FL' : Hid (∀ g, F5 g → V.heap.size ≤ g ∧ g < x28.heap.size) := fun g hg => ⟨(FL5 g hg).1.elim (fun h => (FL.out g h).1) (fun h => Nat.le_trans BC.out.size h), (FL5 g hg).2⟩
              have FN' : Hid (¬ F5 x15.heap.size) := fun h => (FL5 _ h).1.elim (fun h => FN.out h) (fun h => by have := NL.out; omega)
              clear FL FN
              have FL := FL'
              have FN := FN'
              replace BC : Hid (Below V.heap.size V x28) := Below.and BC.out LL
              replace XB : Hid (OneAt x28 x15.heap.size #[.bool false, .slice none 0 0, .slice none 0 0, .slice none 0 0, .slice none 0 0]) := XB.out.step LL
              replace NL : Hid (x15.heap.size < x28.heap.size) := Nat.lt_of_lt_of_le NL.out LL.size
              clear T50 FL5 LL T4 R4 FL' T51 FN'
              refine hK.out _ _ (KEEP.out x28 BC.out) (fun hH => ?_)
              clear hK K
              try simp only [Act.put, List.setIfInBounds_toArray, List.set_cons_zero, List.set_cons_succ]
              clear hH
              obtain ⟨⟨m0, m1, m2, m3, m4⟩, k0, k1, k2, k3, k4⟩ := box_all5 XB.out
              have FIN : Hid (∀ v0 v1 v2 v3 v4, TreeF D (set5 x28 x15.heap.size v0 v1 v2 v3 v4) (fun g => w.heap.size ≤ g) ⟨R.leaf, .slice ra1 R.pairs.length rq1, .slice ra2 R.cuts.length rq2, .slice ra3 R.kids.length rq3, .slice ra4 R.buf.length rq4⟩ R ∧ Below V.heap.size V (set5 x28 x15.heap.size v0 v1 v2 v3 v4)) := fun v0 v1 v2 v3 v4 => by
                have hc := chg_set5 x28 x15.heap.size v0 v1 v2 v3 v4
                exact ⟨(T5.out.chg hc (fun g hg e => FN.out (e ▸ hg))).mono (fun g hg => Nat.le_trans VW.out (FL.out g hg).1), BC.out.trans (hc.below (fun g _ hg => by have := NV.out; omega) BC.out.size)⟩
              clear T5 FL FN NL
              refine wpAnyH_done (by kernel_rfl) ?_ _
              show Oper.wp _ _ _ _ _ _
              go_simp
              go_wp2_with fail
              go_meet
              case rel => exact ⟨_, ra1, ra2, ra3, ra4, rq1, rq2, rq3, rq4, rfl, XB.out.set5 _ _ _ _ _, (FIN.out _ _ _ _ _).1, (FIN.out _ _ _ _ _).2⟩
          · go_simp
            have LL : Below wd.heap.size wd (wd.alloc (.cells #[.bool false, .slice none 0 0, .slice none 0 0, .slice none 0 0, .slice none 0 0] 29)) := al1 _ _
            have XB : Hid (OneAt (wd.alloc (.cells #[.bool false, .slice none 0 0, .slice none 0 0, .slice none 0 0, .slice none 0 0] 29)) wd.heap.size #[.bool false, .slice none 0 0, .slice none 0 0, .slice none 0 0, .slice none 0 0]) := OneAt.start _ _
            have NL : Hid (wd.heap.size < (wd.alloc (.cells #[.bool false, .slice none 0 0, .slice none 0 0, .slice none 0 0, .slice none 0 0] 29)).heap.size) := by show _ < _; simp
            have NV : Hid (V.heap.size ≤ wd.heap.size) := BC.out.size
            replace BC : Hid (Below V.heap.size V (wd.alloc (.cells #[.bool false, .slice none 0 0, .slice none 0 0, .slice none 0 0, .slice none 0 0] 29))) := Below.and BC.out LL
            clear LL
            refine hK.out _ _ (KEEP.out _ BC.out) (fun hH => ?_)
            clear hK K
            try simp only [Act.put, List.setIfInBounds_toArray, List.set_cons_zero, List.set_cons_succ]
            clear hH
            generalize (wd.alloc (.cells #[.bool false, .slice none 0 0, .slice none 0 0, .slice none 0 0, .slice none 0 0] 29)) = x29 at *
            refine wpAnyH_ready (rs := [1, 3]) (by kernel_rfl) (by simp) ?_
            refine AllReadyH.cons (o := ⟨_, _, _, _, _, _⟩) rfl (fun K hK => ?_) (AllReadyH.cons (o := ⟨_, _, _, _, _, _⟩) rfl (fun K hK => ?_) AllReadyH.nil)
            · refine step_func rfl 56 [.tmp 21] #[29] rfl run56 [.agg #[.bool lf, .slice a1 n1 q1, .slice a2 n2 q2, .slice a3 n3 q3, .slice a4 n4 q4]] rfl (HC.out x29 (BV.out _ BC.out)) ?_
              rintro e x30 ⟨y, rfl, TY0, LL⟩
              obtain ⟨ya1, ya2, ya3, ya4, yq1, yq2, yq3, yq4, hyy⟩ := TY0.treeF.treeAt.shape
              subst hyy
              have TY1 := (TreeD.down SH.out TY0).treeF.lt
              rw [EF.out.1, EF.out.2.1, EF.out.2.2.1, EF.out.2.2.2.1, EF.out.2.2.2.2] at TY1 ⊢
              refine ⟨_, rfl, ?_⟩
              obtain ⟨F1, TY, FL0⟩ : ∃ F1 : Nat → Prop, TreeF d x30 F1 ⟨lf, .slice ya1 n1 yq1, .slice ya2 n2 yq2, .slice ya3 n3 yq3, .slice ya4 n4 yq4⟩ T ∧ ∀ g, F1 g → x29.heap.size ≤ g ∧ g < x30.heap.size := ⟨_, TY1, fun g h => h⟩
              replace TY : Hid (TreeF d x30 F1 ⟨lf, .slice ya1 n1 yq1, .slice ya2 n2 yq2, .slice ya3 n3 yq3, .slice ya4 n4 yq4⟩ T) := TY
              have FL : Hid (∀ g, F1 g → V.heap.size ≤ g ∧ g < x30.heap.size) := fun g hg => ⟨Nat.le_trans BC.out.size (FL0 g hg).1, (FL0 g hg).2⟩
              have FN : Hid (¬ F1 wd.heap.size) := fun h => by have := (FL0 _ h).1; have := NL.out; omega
              replace BC : Hid (Below V.heap.size V x30) := Below.and BC.out LL
              replace XB : Hid (OneAt x30 wd.heap.size #[.bool false, .slice none 0 0, .slice none 0 0, .slice none 0 0, .slice none 0 0]) := XB.out.step LL
              replace NL : Hid (wd.heap.size < x30.heap.size) := Nat.lt_of_lt_of_le NL.out LL.size
              clear TY0 TY1 FL0 LL
              refine hK.out _ _ (KEEP.out x30 BC.out) (fun hH => ?_)
              clear hK K
              try simp only [Act.put, List.setIfInBounds_toArray, List.set_cons_zero, List.set_cons_succ]
              clear hH
              refine wpAnyH_ready (rs := [3]) (by kernel_rfl) (by simp) ?_
              refine AllReadyH.cons (o := ⟨_, _, _, _, _, _⟩) rfl (fun K hK => ?_) AllReadyH.nil
              go_simp
              have LL : Below x30.heap.size x30 (x30.alloc (.cells #[.int .i64 o, .int .i64 k, .int .i64 v] 37)) := al1 _ _
              have RM : Hid (Row (x30.alloc (.cells #[.int .i64 o, .int .i64 k, .int .i64 v] 37)) (.slice (some ⟨x30.heap.size, 0, none⟩) 1 1) 1 (flatM [(o, k, v)])) := Row.laid x30 [.int .i64 o, .int .i64 k, .int .i64 v] 37 _ rfl
              replace BC : Hid (Below V.heap.size V (x30.alloc (.cells #[.int .i64 o, .int .i64 k, .int .i64 v] 37))) := Below.and BC.out LL
              replace TY : Hid (TreeF d (x30.alloc (.cells #[.int .i64 o, .int .i64 k, .int .i64 v] 37)) F1 ⟨lf, .slice ya1 n1 yq1, .slice ya2 n2 yq2, .slice ya3 n3 yq3, .slice ya4 n4 yq4⟩ T) := TY.out.below LL
              replace FL : Hid (∀ g, F1 g → V.heap.size ≤ g ∧ g < (x30.alloc (.cells #[.int .i64 o, .int .i64 k, .int .i64 v] 37)).heap.size) := fun g hg => ⟨(FL.out g hg).1, Nat.lt_of_lt_of_le (FL.out g hg).2 LL.size⟩
              replace XB : Hid (OneAt (x30.alloc (.cells #[.int .i64 o, .int .i64 k, .int .i64 v] 37)) wd.heap.size #[.bool false, .slice none 0 0, .slice none 0 0, .slice none 0 0, .slice none 0 0]) := XB.out.step LL
              replace NL : Hid (wd.heap.size < (x30.alloc (.cells #[.int .i64 o, .int .i64 k, .int .i64 v] 37)).heap.size) := Nat.lt_of_lt_of_le NL.out LL.size
              clear LL
              refine hK.out _ _ (KEEP.out _ BC.out) (fun hH => ?_)
              clear hK K
              try simp only [Act.put, List.setIfInBounds_toArray, List.set_cons_zero, List.set_cons_succ]
              clear hH
              generalize (x30.alloc (.cells #[.int .i64 o, .int .i64 k, .int .i64 v] 37)) = x31 at *
              refine wpAnyH_ready (rs := [4]) (by kernel_rfl) (by simp) ?_
              refine AllReadyH.cons (o := ⟨_, _, _, _, _, _⟩) rfl (fun K hK => ?_) AllReadyH.nil
              refine step_func rfl 94 [.tmp 22, .tmp 24] #[29, 27] rfl run94 [.agg #[.bool lf, .slice ya1 n1 yq1, .slice ya2 n2 yq2, .slice ya3 n3 yq3, .slice ya4 n4 yq4], .slice (some ⟨x30.heap.size, 0, none⟩) 1 1] rfl (HG4.out F1 ⟨lf, .slice ya1 n1 yq1, .slice ya2 n2 yq2, .slice ya3 n3 yq3, .slice ya4 n4 yq4⟩ (.slice (some ⟨x30.heap.size, 0, none⟩) 1 1) x31 TY.out RM.out) ?_
              rintro e x32 ⟨v1, v2, rfl, T40, R40, LL⟩
              refine ⟨_, rfl, ?_⟩
              obtain ⟨ax, qx, hv1, _⟩ := (show Row x32 v1 gm.1.length _ from (T40.els.choose_spec.2).row).len
              obtain ⟨ay, qy, hv2, _⟩ := R40.row.len
              subst hv1
              subst hv2
              obtain ⟨F4, T41, R41, FL4⟩ : ∃ F4 : Nat → Prop, TreesF d x32 F4 (.slice ax gm.1.length qx) gm.1 ∧ RowF x32 F4 (.slice ay gm.2.length qy) gm.2.length (flatI gm.2) ∧ ∀ g, F4 g → (F1 g ∨ x31.heap.size ≤ g) ∧ g < x32.heap.size := ⟨_, T40.lt, R40.lt (flatI_ne _).2, fun g h => h⟩
              have T4 : Hid (TreesF d x32 F4 (.slice ax gm.1.length qx) gm.1) := T41
              have R4 : Hid (RowF x32 F4 (.slice ay gm.2.length qy) gm.2.length (flatI gm.2)) := R41
              have FL' : Hid (∀ g, F4 g → V.heap.size ≤ g ∧ g < x32.heap.size) := fun g hg => ⟨(FL4 g hg).1.elim (fun h => (FL.out g h).1) (fun h => Nat.le_trans BC.out.size h), (FL4 g hg).2⟩
              have FN' : Hid (¬ F4 wd.heap.size) := fun h => (FL4 _ h).1.elim (fun h => FN.out h) (fun h => by have := NL.out; omega)
              clear FL FN
              have FL := FL'
              have FN := FN'
              replace BC : Hid (Below V.heap.size V x32) := Below.and BC.out LL
              replace XB : Hid (OneAt x32 wd.heap.size #[.bool false, .slice none 0 0, .slice none 0 0, .slice none 0 0, .slice none 0 0]) := XB.out.step LL
              replace NL : Hid (wd.heap.size < x32.heap.size) := Nat.lt_of_lt_of_le NL.out LL.size
              clear T40 R40 FL4 LL TY RM FL' T41 R41 FN'
              refine hK.out _ _ (KEEP.out x32 BC.out) (fun hH => ?_)
              clear hK K
              try simp only [Act.put, List.setIfInBounds_toArray, List.set_cons_zero, List.set_cons_succ]
              clear hH
              refine wpAnyH_ready (rs := [5]) (by kernel_rfl) (by simp) ?_
              refine AllReadyH.cons (o := ⟨_, _, _, _, _, _⟩) rfl (fun K hK => ?_) AllReadyH.nil
              refine step_func rfl 93 [.tmp 25] #[125] rfl run93 [.agg #[(.slice ax gm.1.length qx), (.slice ay gm.2.length qy)]] rfl (HR5.out F4 (.slice ax gm.1.length qx) (.slice ay gm.2.length qy) x32 T4.out R4.out) ?_
              rintro e x33 ⟨r, rfl, T50, LL⟩
              refine ⟨_, rfl, ?_⟩
              obtain ⟨ra1, ra2, ra3, ra4, rq1, rq2, rq3, rq4, hyr⟩ := T50.treeAt.shape
              subst hyr
              obtain ⟨F5, T51, FL5⟩ : ∃ F5 : Nat → Prop, TreeF D x33 F5 ⟨R.leaf, .slice ra1 R.pairs.length rq1, .slice ra2 R.cuts.length rq2, .slice ra3 R.kids.length rq3, .slice ra4 R.buf.length rq4⟩ R ∧ ∀ g, F5 g → (F4 g ∨ x32.heap.size ≤ g) ∧ g < x33.heap.size := ⟨_, T50.lt, fun g h => h⟩
              have T5 : Hid (TreeF D x33 F5 ⟨R.leaf, .slice ra1 R.pairs.length rq1, .slice ra2 R.cuts.length rq2, .slice ra3 R.kids.length rq3, .slice ra4 R.buf.length rq4⟩ R) := T51
              have FL' : Hid (∀ g, F5 g → V.heap.size ≤ g ∧ g < x33.heap.size) := fun g hg => ⟨(FL5 g hg).1.elim (fun h => (FL.out g h).1) (fun h => Nat.le_trans BC.out.size h), (FL5 g hg).2⟩
              have FN' : Hid (¬ F5 wd.heap.size) := fun h => (FL5 _ h).1.elim (fun h => FN.out h) (fun h => by have := NL.out; omega)
              clear FL FN
              have FL := FL'
              have FN := FN'
              replace BC : Hid (Below V.heap.size V x33) := Below.and BC.out LL
              replace XB : Hid (OneAt x33 wd.heap.size #[.bool false, .slice none 0 0, .slice none 0 0, .slice none 0 0, .slice none 0 0]) := XB.out.step LL
              replace NL : Hid (wd.heap.size < x33.heap.size) := Nat.lt_of_lt_of_le NL.out LL.size
              clear T50 FL5 LL T4 R4 FL' T51 FN'
              refine hK.out _ _ (KEEP.out x33 BC.out) (fun hH => ?_)
              clear hK K
              try simp only [Act.put, List.setIfInBounds_toArray, List.set_cons_zero, List.set_cons_succ]
              clear hH
              obtain ⟨⟨m0, m1, m2, m3, m4⟩, k0, k1, k2, k3, k4⟩ := box_all5 XB.out
              have FIN : Hid (∀ v0 v1 v2 v3 v4, TreeF D (set5 x33 wd.heap.size v0 v1 v2 v3 v4) (fun g => w.heap.size ≤ g) ⟨R.leaf, .slice ra1 R.pairs.length rq1, .slice ra2 R.cuts.length rq2, .slice ra3 R.kids.length rq3, .slice ra4 R.buf.length rq4⟩ R ∧ Below V.heap.size V (set5 x33 wd.heap.size v0 v1 v2 v3 v4)) := fun v0 v1 v2 v3 v4 => by
                have hc := chg_set5 x33 wd.heap.size v0 v1 v2 v3 v4
                exact ⟨(T5.out.chg hc (fun g hg e => FN.out (e ▸ hg))).mono (fun g hg => Nat.le_trans VW.out (FL.out g hg).1), BC.out.trans (hc.below (fun g _ hg => by have := NV.out; omega) BC.out.size)⟩
              clear T5 FL FN NL
              refine wpAnyH_done (by kernel_rfl) ?_ _
              show Oper.wp _ _ _ _ _ _
              go_simp
              go_wp2_with fail
              go_meet
              case rel => exact ⟨_, ra1, ra2, ra3, ra4, rq1, rq2, rq3, rq4, rfl, XB.out.set5 _ _ _ _ _, (FIN.out _ _ _ _ _).1, (FIN.out _ _ _ _ _).2⟩
            · go_simp
              have LL : Below x29.heap.size x29 (x29.alloc (.cells #[.int .i64 o, .int .i64 k, .int .i64 v] 37)) := al1 _ _
              have RM : Hid (Row (x29.alloc (.cells #[.int .i64 o, .int .i64 k, .int .i64 v] 37)) (.slice (some ⟨x29.heap.size, 0, none⟩) 1 1) 1 (flatM [(o, k, v)])) := Row.laid x29 [.int .i64 o, .int .i64 k, .int .i64 v] 37 _ rfl
              replace BC : Hid (Below V.heap.size V (x29.alloc (.cells #[.int .i64 o, .int .i64 k, .int .i64 v] 37))) := Below.and BC.out LL
              replace XB : Hid (OneAt (x29.alloc (.cells #[.int .i64 o, .int .i64 k, .int .i64 v] 37)) wd.heap.size #[.bool false, .slice none 0 0, .slice none 0 0, .slice none 0 0, .slice none 0 0]) := XB.out.step LL
              replace NL : Hid (wd.heap.size < (x29.alloc (.cells #[.int .i64 o, .int .i64 k, .int .i64 v] 37)).heap.size) := Nat.lt_of_lt_of_le NL.out LL.size
              clear LL
              refine hK.out _ _ (KEEP.out _ BC.out) (fun hH => ?_)
              clear hK K
              try simp only [Act.put, List.setIfInBounds_toArray, List.set_cons_zero, List.set_cons_succ]
              clear hH
              generalize (x29.alloc (.cells #[.int .i64 o, .int .i64 k, .int .i64 v] 37)) = x34 at *
              refine wpAnyH_ready (rs := [1]) (by kernel_rfl) (by simp) ?_
              refine AllReadyH.cons (o := ⟨_, _, _, _, _, _⟩) rfl (fun K hK => ?_) AllReadyH.nil
              refine step_func rfl 56 [.tmp 21] #[29] rfl run56 [.agg #[.bool lf, .slice a1 n1 q1, .slice a2 n2 q2, .slice a3 n3 q3, .slice a4 n4 q4]] rfl (HC.out x34 (BV.out _ BC.out)) ?_
              rintro e x35 ⟨y, rfl, TY0, LL⟩
              obtain ⟨ya1, ya2, ya3, ya4, yq1, yq2, yq3, yq4, hyy⟩ := TY0.treeF.treeAt.shape
              subst hyy
              have TY1 := (TreeD.down SH.out TY0).treeF.lt
              rw [EF.out.1, EF.out.2.1, EF.out.2.2.1, EF.out.2.2.2.1, EF.out.2.2.2.2] at TY1 ⊢
              refine ⟨_, rfl, ?_⟩
              obtain ⟨F1, TY, FL0⟩ : ∃ F1 : Nat → Prop, TreeF d x35 F1 ⟨lf, .slice ya1 n1 yq1, .slice ya2 n2 yq2, .slice ya3 n3 yq3, .slice ya4 n4 yq4⟩ T ∧ ∀ g, F1 g → x34.heap.size ≤ g ∧ g < x35.heap.size := ⟨_, TY1, fun g h => h⟩
              replace TY : Hid (TreeF d x35 F1 ⟨lf, .slice ya1 n1 yq1, .slice ya2 n2 yq2, .slice ya3 n3 yq3, .slice ya4 n4 yq4⟩ T) := TY
              have FL : Hid (∀ g, F1 g → V.heap.size ≤ g ∧ g < x35.heap.size) := fun g hg => ⟨Nat.le_trans BC.out.size (FL0 g hg).1, (FL0 g hg).2⟩
              have FN : Hid (¬ F1 wd.heap.size) := fun h => by have := (FL0 _ h).1; have := NL.out; omega
              replace BC : Hid (Below V.heap.size V x35) := Below.and BC.out LL
              replace RM : Hid (Row x35 (.slice (some ⟨x29.heap.size, 0, none⟩) 1 1) 1 (flatM [(o, k, v)])) := RM.out.below LL
              replace XB : Hid (OneAt x35 wd.heap.size #[.bool false, .slice none 0 0, .slice none 0 0, .slice none 0 0, .slice none 0 0]) := XB.out.step LL
              replace NL : Hid (wd.heap.size < x35.heap.size) := Nat.lt_of_lt_of_le NL.out LL.size
              clear TY0 TY1 FL0 LL
              refine hK.out _ _ (KEEP.out x35 BC.out) (fun hH => ?_)
              clear hK K
              try simp only [Act.put, List.setIfInBounds_toArray, List.set_cons_zero, List.set_cons_succ]
              clear hH
              refine wpAnyH_ready (rs := [4]) (by kernel_rfl) (by simp) ?_
              refine AllReadyH.cons (o := ⟨_, _, _, _, _, _⟩) rfl (fun K hK => ?_) AllReadyH.nil
              refine step_func rfl 94 [.tmp 22, .tmp 24] #[29, 27] rfl run94 [.agg #[.bool lf, .slice ya1 n1 yq1, .slice ya2 n2 yq2, .slice ya3 n3 yq3, .slice ya4 n4 yq4], .slice (some ⟨x29.heap.size, 0, none⟩) 1 1] rfl (HG4.out F1 ⟨lf, .slice ya1 n1 yq1, .slice ya2 n2 yq2, .slice ya3 n3 yq3, .slice ya4 n4 yq4⟩ (.slice (some ⟨x29.heap.size, 0, none⟩) 1 1) x35 TY.out RM.out) ?_
              rintro e x36 ⟨v1, v2, rfl, T40, R40, LL⟩
              refine ⟨_, rfl, ?_⟩
              obtain ⟨ax, qx, hv1, _⟩ := (show Row x36 v1 gm.1.length _ from (T40.els.choose_spec.2).row).len
              obtain ⟨ay, qy, hv2, _⟩ := R40.row.len
              subst hv1
              subst hv2
              obtain ⟨F4, T41, R41, FL4⟩ : ∃ F4 : Nat → Prop, TreesF d x36 F4 (.slice ax gm.1.length qx) gm.1 ∧ RowF x36 F4 (.slice ay gm.2.length qy) gm.2.length (flatI gm.2) ∧ ∀ g, F4 g → (F1 g ∨ x35.heap.size ≤ g) ∧ g < x36.heap.size := ⟨_, T40.lt, R40.lt (flatI_ne _).2, fun g h => h⟩
              have T4 : Hid (TreesF d x36 F4 (.slice ax gm.1.length qx) gm.1) := T41
              have R4 : Hid (RowF x36 F4 (.slice ay gm.2.length qy) gm.2.length (flatI gm.2)) := R41
              have FL' : Hid (∀ g, F4 g → V.heap.size ≤ g ∧ g < x36.heap.size) := fun g hg => ⟨(FL4 g hg).1.elim (fun h => (FL.out g h).1) (fun h => Nat.le_trans BC.out.size h), (FL4 g hg).2⟩
              have FN' : Hid (¬ F4 wd.heap.size) := fun h => (FL4 _ h).1.elim (fun h => FN.out h) (fun h => by have := NL.out; omega)
              clear FL FN
              have FL := FL'
              have FN := FN'
              replace BC : Hid (Below V.heap.size V x36) := Below.and BC.out LL
              replace XB : Hid (OneAt x36 wd.heap.size #[.bool false, .slice none 0 0, .slice none 0 0, .slice none 0 0, .slice none 0 0]) := XB.out.step LL
              replace NL : Hid (wd.heap.size < x36.heap.size) := Nat.lt_of_lt_of_le NL.out LL.size
              clear T40 R40 FL4 LL TY RM FL' T41 R41 FN'
              refine hK.out _ _ (KEEP.out x36 BC.out) (fun hH => ?_)
              clear hK K
              try simp only [Act.put, List.setIfInBounds_toArray, List.set_cons_zero, List.set_cons_succ]
              clear hH
              refine wpAnyH_ready (rs := [5]) (by kernel_rfl) (by simp) ?_
              refine AllReadyH.cons (o := ⟨_, _, _, _, _, _⟩) rfl (fun K hK => ?_) AllReadyH.nil
              refine step_func rfl 93 [.tmp 25] #[125] rfl run93 [.agg #[(.slice ax gm.1.length qx), (.slice ay gm.2.length qy)]] rfl (HR5.out F4 (.slice ax gm.1.length qx) (.slice ay gm.2.length qy) x36 T4.out R4.out) ?_
              rintro e x37 ⟨r, rfl, T50, LL⟩
              refine ⟨_, rfl, ?_⟩
              obtain ⟨ra1, ra2, ra3, ra4, rq1, rq2, rq3, rq4, hyr⟩ := T50.treeAt.shape
              subst hyr
              obtain ⟨F5, T51, FL5⟩ : ∃ F5 : Nat → Prop, TreeF D x37 F5 ⟨R.leaf, .slice ra1 R.pairs.length rq1, .slice ra2 R.cuts.length rq2, .slice ra3 R.kids.length rq3, .slice ra4 R.buf.length rq4⟩ R ∧ ∀ g, F5 g → (F4 g ∨ x36.heap.size ≤ g) ∧ g < x37.heap.size := ⟨_, T50.lt, fun g h => h⟩
              have T5 : Hid (TreeF D x37 F5 ⟨R.leaf, .slice ra1 R.pairs.length rq1, .slice ra2 R.cuts.length rq2, .slice ra3 R.kids.length rq3, .slice ra4 R.buf.length rq4⟩ R) := T51
              have FL' : Hid (∀ g, F5 g → V.heap.size ≤ g ∧ g < x37.heap.size) := fun g hg => ⟨(FL5 g hg).1.elim (fun h => (FL.out g h).1) (fun h => Nat.le_trans BC.out.size h), (FL5 g hg).2⟩
              have FN' : Hid (¬ F5 wd.heap.size) := fun h => (FL5 _ h).1.elim (fun h => FN.out h) (fun h => by have := NL.out; omega)
              clear FL FN
              have FL := FL'
              have FN := FN'
              replace BC : Hid (Below V.heap.size V x37) := Below.and BC.out LL
              replace XB : Hid (OneAt x37 wd.heap.size #[.bool false, .slice none 0 0, .slice none 0 0, .slice none 0 0, .slice none 0 0]) := XB.out.step LL
              replace NL : Hid (wd.heap.size < x37.heap.size) := Nat.lt_of_lt_of_le NL.out LL.size
              clear T50 FL5 LL T4 R4 FL' T51 FN'
              refine hK.out _ _ (KEEP.out x37 BC.out) (fun hH => ?_)
              clear hK K
              try simp only [Act.put, List.setIfInBounds_toArray, List.set_cons_zero, List.set_cons_succ]
              clear hH
              obtain ⟨⟨m0, m1, m2, m3, m4⟩, k0, k1, k2, k3, k4⟩ := box_all5 XB.out
              have FIN : Hid (∀ v0 v1 v2 v3 v4, TreeF D (set5 x37 wd.heap.size v0 v1 v2 v3 v4) (fun g => w.heap.size ≤ g) ⟨R.leaf, .slice ra1 R.pairs.length rq1, .slice ra2 R.cuts.length rq2, .slice ra3 R.kids.length rq3, .slice ra4 R.buf.length rq4⟩ R ∧ Below V.heap.size V (set5 x37 wd.heap.size v0 v1 v2 v3 v4)) := fun v0 v1 v2 v3 v4 => by
                have hc := chg_set5 x37 wd.heap.size v0 v1 v2 v3 v4
                exact ⟨(T5.out.chg hc (fun g hg e => FN.out (e ▸ hg))).mono (fun g hg => Nat.le_trans VW.out (FL.out g hg).1), BC.out.trans (hc.below (fun g _ hg => by have := NV.out; omega) BC.out.size)⟩
              clear T5 FL FN NL
              refine wpAnyH_done (by kernel_rfl) ?_ _
              show Oper.wp _ _ _ _ _ _
              go_simp
              go_wp2_with fail
              go_meet
              case rel => exact ⟨_, ra1, ra2, ra3, ra4, rq1, rq2, rq3, rq4, rfl, XB.out.set5 _ _ _ _ _, (FIN.out _ _ _ _ _).1, (FIN.out _ _ _ _ _).2⟩
        case rest =>
        obtain ⟨N, ra1, ra2, ra3, ra4, rq1, rq2, rq3, rq4, rfl, XN, TN, BN⟩ := hcut
        have AT : Hid (TreeAt D wc ⟨R.leaf, .slice ra1 R.pairs.length rq1, .slice ra2 R.cuts.length rq2, .slice ra3 R.kids.length rq3, .slice ra4 R.buf.length rq4⟩ R) := TN.out.treeAt
        have HO5 : Hid _ := specTreeOk_any D ⟨R.leaf, .slice ra1 R.pairs.length rq1, .slice ra2 R.cuts.length rq2, .slice ra3 R.kids.length rq3, .slice ra4 R.buf.length rq4⟩ R wc AT.out SZ.out
        obtain ⟨d0, d1, d2, d3, d4⟩ := box_cells5 XN.out
        clear HG4 HR5 KEEP hS BC TN
        generalize R.leaf = rl at *
        generalize R.pairs.length = rn1 at *
        generalize R.cuts.length = rn2 at *
        generalize R.kids.length = rn3 at *
        generalize R.buf.length = rn4 at *
        go_wp2_with fail
        refine Calls.mono HO5.out ?_
        rintro e' w6 ⟨rfl, hb6⟩
        have L6 : Hid (Below V.heap.size V w6) := Below.and BN.out hb6
        have Rw6 : Hid (OneAt w6 N #[.bool rl, .slice ra1 rn1 rq1, .slice ra2 rn2 rq2, .slice ra3 rn3 rq3, .slice ra4 rn4 rq4]) := XN.out.step hb6
        have Aw6 : Hid (TreeAt D w6 (⟨rl, .slice ra1 rn1 rq1, .slice ra2 rn2 rq2, .slice ra3 rn3 rq3, .slice ra4 rn4 rq4⟩) R) := AT.out.below hb6
        have Sw6 : Hid (OneAt w6 w.heap.size #[.bool lf, .slice a1 n1 q1, .slice a2 n2 q2, .slice a3 n3 q3, .slice a4 n4 q4]) := SV.out.step L6.out
        have Xw6 : Hid (OneAt w6 (w.heap.size + 2) #[.bool false, .slice none 0 0, .slice none 0 0, .slice none 0 0, .slice none 0 0]) := XV.out.step L6.out
        have Bw6 : Hid (Below w.heap.size w w6) := BV.out _ L6.out
        have Zw6 : Hid (w.heap.size + 3 ≤ w6.heap.size) := Nat.le_trans ZV.out L6.out.size
        clear hb6 HO5 d0 d1 d2 d3 d4 AT L6 XN BN
        cases hor : okT R with
        | false =>
          have ED : injF T (o, k, v) = T := by rw [EI.out, hor]; rfl
          have HCC : Hid _ := HC.out w6 Bw6.out
          obtain ⟨c0, c1, c2, c3, c4⟩ := box_cells5 Sw6.out
          go_wp2_with fail
          refine Calls.mono HCC.out ?_
          rintro e w6z ⟨z, rfl, TY, hbz⟩
          obtain ⟨za1, za2, za3, za4, zq1, zq2, zq3, zq4, hyz⟩ := (TY.treeF.treeAt).shape
          subst hyz
          have TZ : Hid (TreeD n w6z (fun g => w6.heap.size ≤ g) _ T) := TY
          have BZ : Hid (Below w.heap.size w w6z) := Below.and Bw6.out hbz
          have XZ : Hid (OneAt w6z (w.heap.size + 2) #[.bool false, .slice none 0 0, .slice none 0 0, .slice none 0 0, .slice none 0 0]) := Xw6.out.step hbz
          have HZ : Hid (w.heap.size + 3 ≤ w6.heap.size) := Zw6
          clear TY hbz HCC c0 c1 c2 c3 c4
          generalize (T).leaf = zl at *
          generalize (T).pairs.length = zn1 at *
          generalize (T).cuts.length = zn2 at *
          generalize (T).kids.length = zn3 at *
          generalize (T).buf.length = zn4 at *
          obtain ⟨⟨m0, m1, m2, m3, m4⟩, k0, k1, k2, k3, k4⟩ := box_all5 XZ.out
          have FIN : Hid (∀ v0 v1 v2 v3 v4, TreeD (n) (set5 w6z (w.heap.size + 2) v0 v1 v2 v3 v4) (fun g => w.heap.size ≤ g) (⟨zl, .slice za1 zn1 zq1, .slice za2 zn2 zq2, .slice za3 zn3 zq3, .slice za4 zn4 zq4⟩ : TV) (T) ∧ Below w.heap.size w (set5 w6z (w.heap.size + 2) v0 v1 v2 v3 v4)) := fun v0 v1 v2 v3 v4 => by
            have hc := chg_set5 w6z (w.heap.size + 2) v0 v1 v2 v3 v4
            have hz := HZ.out
            exact ⟨(TZ.out.chg hc (fun g hg k => by omega)).mono (fun g hg => by omega), BZ.out.trans (hc.below (fun g _ hg => by omega) BZ.out.size)⟩
          clear TZ XZ
          go_wp2
          refine bodyPost_ret (v := .agg #[.bool zl, .slice za1 zn1 zq1, .slice za2 zn2 zq2, .slice za3 zn3 zq3, .slice za4 zn4 zq4]) (by simp [results, Tryz.results78, go_sem, m0, m1, m2, m3, m4]) rfl ⟨⟨zl, .slice za1 zn1 zq1, .slice za2 zn2 zq2, .slice za3 zn3 zq3, .slice za4 zn4 zq4⟩, n, rfl, ?_, (FIN.out _ _ _ _ _).2⟩
          rw [ED]
          exact (FIN.out _ _ _ _ _).1
        | true =>
          have ED : injF T (o, k, v) = R := by rw [EI.out, hor]; rfl
          have HCC : Hid _ := copy_all D (⟨rl, .slice ra1 rn1 rq1, .slice ra2 rn2 rq2, .slice ra3 rn3 rq3, .slice ra4 rn4 rq4⟩) R w6 Aw6.out SZ.out
          obtain ⟨c0, c1, c2, c3, c4⟩ := box_cells5 Rw6.out
          go_wp2_with fail
          refine Calls.mono HCC.out ?_
          rintro e w6z ⟨z, rfl, TY, hbz⟩
          obtain ⟨za1, za2, za3, za4, zq1, zq2, zq3, zq4, hyz⟩ := (TY.treeF.treeAt).shape
          subst hyz
          have TZ : Hid (TreeD D w6z (fun g => w6.heap.size ≤ g) _ R) := TY
          have BZ : Hid (Below w.heap.size w w6z) := Below.and Bw6.out hbz
          have XZ : Hid (OneAt w6z (w.heap.size + 2) #[.bool false, .slice none 0 0, .slice none 0 0, .slice none 0 0, .slice none 0 0]) := Xw6.out.step hbz
          have HZ : Hid (w.heap.size + 3 ≤ w6.heap.size) := Zw6
          clear TY hbz HCC c0 c1 c2 c3 c4
          generalize (R).leaf = zl at *
          generalize (R).pairs.length = zn1 at *
          generalize (R).cuts.length = zn2 at *
          generalize (R).kids.length = zn3 at *
          generalize (R).buf.length = zn4 at *
          obtain ⟨⟨m0, m1, m2, m3, m4⟩, k0, k1, k2, k3, k4⟩ := box_all5 XZ.out
          have FIN : Hid (∀ v0 v1 v2 v3 v4, TreeD (D) (set5 w6z (w.heap.size + 2) v0 v1 v2 v3 v4) (fun g => w.heap.size ≤ g) (⟨zl, .slice za1 zn1 zq1, .slice za2 zn2 zq2, .slice za3 zn3 zq3, .slice za4 zn4 zq4⟩ : TV) (R) ∧ Below w.heap.size w (set5 w6z (w.heap.size + 2) v0 v1 v2 v3 v4)) := fun v0 v1 v2 v3 v4 => by
            have hc := chg_set5 w6z (w.heap.size + 2) v0 v1 v2 v3 v4
            have hz := HZ.out
            exact ⟨(TZ.out.chg hc (fun g hg k => by omega)).mono (fun g hg => by omega), BZ.out.trans (hc.below (fun g _ hg => by omega) BZ.out.size)⟩
          clear TZ XZ
          go_wp2
          refine bodyPost_ret (v := .agg #[.bool zl, .slice za1 zn1 zq1, .slice za2 zn2 zq2, .slice za3 zn3 zq3, .slice za4 zn4 zq4]) (by simp [results, Tryz.results78, go_sem, m0, m1, m2, m3, m4]) rfl ⟨⟨zl, .slice za1 zn1 zq1, .slice za2 zn2 zq2, .slice za3 zn3 zq3, .slice za4 zn4 zq4⟩, D, rfl, ?_, (FIN.out _ _ _ _ _).2⟩
          rw [ED]
          exact (FIN.out _ _ _ _ _).1

end Go.Proofs.YtmpiijphpnjlnaaGreat
