/-
  The contract of the model's DrawTreeGet.
-/
import Derived.Test.YtmpiijphpnjlnaaGreatDKid
import Derived.Test.YtmpiijphpnjlnaaGreatColl
import Derived.Test.YtmpiijphpnjlnaaGreatSame
namespace Go.Proofs.YtmpiijphpnjlnaaGreat
open Go.RowKit

set_option maxRecDepth 100000 in
set_option maxHeartbeats 4000000 in
theorem drawTreeGet_any (v : Value) (bs : List Int) (w : World) (hcode : Code8 w v bs) (hn : bs.length ≤ 1048576) :
    Calls Tryz.prog 6 #[v] w fun e w' => ∃ (y : TV) (T : Tr) (k : Int), e = .returned (.tuple #[y.val, .int .i64 k]) ∧ sizeT 8 T ≤ 1099511627776 ∧ TreeAt 8 w' y T ∧ Below w.heap.size w w' := by
  have HD : Hid _ := drawKidOf_own v bs (w.alloc (.cells #[.bool false, .slice none 0 0, .slice none 0 0, .slice none 0 0, .slice none 0 0] 29)) (hcode.below (al1 _ _)) hn
  obtain ⟨ca, cn, hcv, _⟩ := hcode.1.len
  subst hcv
  have S0 : Hid (OneAt (w.alloc (.cells #[.bool false, .slice none 0 0, .slice none 0 0, .slice none 0 0, .slice none 0 0] 29)) w.heap.size #[.bool false, .slice none 0 0, .slice none 0 0, .slice none 0 0, .slice none 0 0]) := OneAt.start _ _
  have B0 : Hid (Below w.heap.size w (w.alloc (.cells #[.bool false, .slice none 0 0, .slice none 0 0, .slice none 0 0, .slice none 0 0] 29))) := al1 _ _
  clear hcode hn
  generalize bs.length = bn at *
  go_enter Tryz.func6, Tryz.ntmps6
  go_wp2_with fail
  refine Calls.mono HD.out ?_
  rintro e w1 ⟨y, T, k, rfl, hsz, TF, hb1⟩
  have SZ : Hid (sizeT 8 T ≤ 1099511627776) := hsz
  obtain ⟨ya1, ya2, ya3, ya4, yq1, yq2, yq3, yq4, hyy⟩ := TF.treeAt.shape
  subst hyy
  have TF2 : Hid (TreeF 8 (w1.alloc (.cells #[.bool T.leaf, .slice ya1 T.pairs.length yq1, .slice ya2 T.cuts.length yq2, .slice ya3 T.kids.length yq3, .slice ya4 T.buf.length yq4] 29)) (fun g => w.heap.size < g) (⟨T.leaf, .slice ya1 T.pairs.length yq1, .slice ya2 T.cuts.length yq2, .slice ya3 T.kids.length yq3, .slice ya4 T.buf.length yq4⟩ : TV) T) := (TF.below (al1 _ _)).mono (fun g hg => by simp at hg; omega)
  have X2 : Hid (OneAt (w1.alloc (.cells #[.bool T.leaf, .slice ya1 T.pairs.length yq1, .slice ya2 T.cuts.length yq2, .slice ya3 T.kids.length yq3, .slice ya4 T.buf.length yq4] 29)) w1.heap.size #[.bool T.leaf, .slice ya1 T.pairs.length yq1, .slice ya2 T.cuts.length yq2, .slice ya3 T.kids.length yq3, .slice ya4 T.buf.length yq4]) := OneAt.start _ _
  have S2 : Hid (OneAt (w1.alloc (.cells #[.bool T.leaf, .slice ya1 T.pairs.length yq1, .slice ya2 T.cuts.length yq2, .slice ya3 T.kids.length yq3, .slice ya4 T.buf.length yq4] 29)) w.heap.size #[.bool false, .slice none 0 0, .slice none 0 0, .slice none 0 0, .slice none 0 0]) := (S0.out.step hb1).step (al1 _ _)
  have B2 : Hid (Below w.heap.size w (w1.alloc (.cells #[.bool T.leaf, .slice ya1 T.pairs.length yq1, .slice ya2 T.cuts.length yq2, .slice ya3 T.kids.length yq3, .slice ya4 T.buf.length yq4] 29))) := Below.and (Below.and B0.out hb1) (al1 _ _)
  clear TF hb1 HD S0 B0 hsz
  go_upto_region 2 with fail
  generalize (w1.alloc (.cells #[.bool T.leaf, .slice ya1 T.pairs.length yq1, .slice ya2 T.cuts.length yq2, .slice ya3 T.kids.length yq3, .slice ya4 T.buf.length yq4] 29)) = w2 at *
  generalize w1.heap.size = NT at *
  obtain ⟨c0, c1, c2, c3, c4⟩ := box_cells5 X2.out
  obtain ⟨⟨m0, m1, m2, m3, m4⟩, k0, k1, k2, k3, k4⟩ := box_all5 S2.out
  have FIN : Hid (∀ v0 v1 v2 v3 v4, TreeAt 8 (set5 w2 w.heap.size v0 v1 v2 v3 v4) (⟨T.leaf, .slice ya1 T.pairs.length yq1, .slice ya2 T.cuts.length yq2, .slice ya3 T.kids.length yq3, .slice ya4 T.buf.length yq4⟩ : TV) T ∧ Below w.heap.size w (set5 w2 w.heap.size v0 v1 v2 v3 v4)) := fun v0 v1 v2 v3 v4 => by
    have hc := chg_set5 w2 w.heap.size v0 v1 v2 v3 v4
    exact ⟨(TF2.out.chg hc (fun g hg e => by omega)).treeAt, B2.out.trans (hc.below (fun g _ hg => by omega) B2.out.size)⟩
  have X6 : Hid (OneAt (set5 w2 w.heap.size (.bool T.leaf) (.slice ya1 T.pairs.length yq1) (.slice ya2 T.cuts.length yq2) (.slice ya3 T.kids.length yq3) (.slice ya4 T.buf.length yq4)) w.heap.size #[.bool T.leaf, .slice ya1 T.pairs.length yq1, .slice ya2 T.cuts.length yq2, .slice ya3 T.kids.length yq3, .slice ya4 T.buf.length yq4]) := S2.out.set5 _ _ _ _ _
  obtain ⟨n0, n1, n2, n3, n4⟩ := box_cells5 X6.out
  clear TF2 X2 S2 B2
  go_wp2
  refine bodyPost_ret (v := .tuple #[.agg #[.bool T.leaf, .slice ya1 T.pairs.length yq1, .slice ya2 T.cuts.length yq2, .slice ya3 T.kids.length yq3, .slice ya4 T.buf.length yq4], .int .i64 k]) (by simp [results, Tryz.results6, go_sem, m0, m1, m2, m3, m4]) rfl ⟨⟨T.leaf, .slice ya1 T.pairs.length yq1, .slice ya2 T.cuts.length yq2, .slice ya3 T.kids.length yq3, .slice ya4 T.buf.length yq4⟩, T, k, rfl, SZ.out, (FIN.out _ _ _ _ _).1, (FIN.out _ _ _ _ _).2⟩

theorem got_is (T : Tr) (k : Int) : getP (mapT T) k = getT T k := by
  unfold mapT getT
  split
  · rename_i h
    rw [(mapF_is (okT_depth h)).2.2 k, getP_allL (leafF_ok k (okT_depth h)).1, ofK_id (pendF_all 7 T k)]
    rfl
  · rfl
theorem pend_key (T : Tr) (k : Int) : ∀ i, i < (pendT T k).length → mK (pendT T k) i = k := fun i hi => by
  have hall : ∀ m ∈ pendT T k, m.2.1 = k := by
    unfold pendT
    split
    · exact pendF_all 7 T k
    · intro m hm; simp at hm
  have := hall ((pendT T k)[i]) (List.getElem_mem hi)
  simpa [mK, List.getD, hi] using this
theorem pend_no {T : Tr} (k : Int) (h : okT T = false) : (pendT T k).length = 0 := by rw [pendT, if_neg (by rw [h]; decide)]; rfl

end Go.Proofs.YtmpiijphpnjlnaaGreat
