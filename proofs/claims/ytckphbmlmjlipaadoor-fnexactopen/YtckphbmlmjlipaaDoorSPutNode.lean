/-
  The model's PutNode.
-/
import Derived.Test.YtckphbmlmjlipaaDoorL5Node
import Derived.Test.YtckphbmlmjlipaaDoorPutNode
namespace Go.Proofs.YtckphbmlmjlipaaDoor
open Go.RowKit

set_option maxRecDepth 100000 in
set_option maxHeartbeats 40000000 in
theorem specPutNode_P (n : Nat) (a1 a2 a3 a4 : Option Addr) (q1 q2 q3 q4 : Nat) (T : Tr) (ak : Option Addr) (qk : Nat) (ks : List Int) (w : World) (hlf : T.leaf = true) (ht : TreeAt n w ⟨true, .slice a1 T.pairs.length q1, .slice a2 T.cuts.length q2, .slice a3 T.kids.length q3, .slice a4 T.buf.length q4⟩ T) (hks : Row w (.slice ak ks.length qk) ks.length (flatI ks)) (z1 : T.pairs.length ≤ 1099511627776) (z2 : T.cuts.length ≤ 1099511627776) (z3 : T.kids.length ≤ 1099511627776) (z4 : T.buf.length ≤ 1099511627776) (z5 : ks.length ≤ 1099511627776) :
    Calls Tryd.prog 53 #[.agg #[.bool true, .slice a1 T.pairs.length q1, .slice a2 T.cuts.length q2, .slice a3 T.kids.length q3, .slice a4 T.buf.length q4], .slice ak ks.length qk] w fun e w' => PutPost w (putNodeF T ks) e w' ∧ Below w.heap.size w w' := by
  have b0 : Below w.heap.size w (w.alloc (.cells #[.bool true, .slice a1 T.pairs.length q1, .slice a2 T.cuts.length q2, .slice a3 T.kids.length q3, .slice a4 T.buf.length q4] 32)) := bel_new w _
  have X0 : Hid _ := And.intro (ht.below b0) (And.intro (hks.below b0) trivial)
  have HB0 : Hid _ := b0
  have e0 : OwnB w.heap.size ((w.alloc (.cells #[.bool true, .slice a1 T.pairs.length q1, .slice a2 T.cuts.length q2, .slice a3 T.kids.length q3, .slice a4 T.buf.length q4] 32)).alloc (.cells #[] 5)) (.slice (some ⟨w.heap.size + 1, 0, none⟩) 0 0) [] := by
    have := empty_own (w.alloc (.cells #[.bool true, .slice a1 T.pairs.length q1, .slice a2 T.cuts.length q2, .slice a3 T.kids.length q3, .slice a4 T.buf.length q4] 32)) w.heap.size 5 1 (by simp)
    rw [show (w.alloc (.cells #[.bool true, .slice a1 T.pairs.length q1, .slice a2 T.cuts.length q2, .slice a3 T.kids.length q3, .slice a4 T.buf.length q4] 32)).heap.size = w.heap.size + 1 by simp] at this
    exact this
  have F0 : Hid (OwnB w.heap.size ((w.alloc (.cells #[.bool true, .slice a1 T.pairs.length q1, .slice a2 T.cuts.length q2, .slice a3 T.kids.length q3, .slice a4 T.buf.length q4] 32)).alloc (.cells #[] 5)) (.slice (some ⟨w.heap.size + 1, 0, none⟩) 0 0) [] ∧ Below w.heap.size w ((w.alloc (.cells #[.bool true, .slice a1 T.pairs.length q1, .slice a2 T.cuts.length q2, .slice a3 T.kids.length q3, .slice a4 T.buf.length q4] 32)).alloc (.cells #[] 5))) := ⟨e0, b0.alloc (by simp) _⟩
  have OKI : Hid (nodeOkP T ks ↔ ks.length = 0 ∧ T.cuts.length = 0 ∧ T.kids.length = 0 ∧ T.buf.length = 0 ∧ T.pairs.length ≤ 4) := by show _ ↔ _; unfold nodeOkP; rw [if_pos hlf]
  clear ht hks b0 e0 hlf
  generalize T.pairs.length = n1 at *
  generalize T.cuts.length = n2 at *
  generalize T.kids.length = n3 at *
  generalize T.buf.length = n4 at *
  generalize hnk : ks.length = nk at *
  have HNK : Hid _ := hnk
  clear hnk
  by_cases h1 : nk = 0
  · subst h1
    by_cases h2 : n3 + n2 + n4 = 0
    · obtain ⟨rfl, rfl, rfl⟩ : n3 = 0 ∧ n2 = 0 ∧ n4 = 0 := by omega
      by_cases h3 : n1 ≤ 4
      · have d3 : (n1 : Int) ≤ 4 := by omega
        have HN : Hid _ := OKI.out.2 (by omega)
        clear h2 h3
        go_enter Tryd.func53, Tryd.ntmps53
        go_wp2_with fail
        refine (l5Node_any n ⟨true, .slice a1 n1 q1, .slice a2 0 q2, .slice a3 0 q3, .slice a4 0 q4⟩ T _ ks _ X0.out.1 (by rw [HNK.out]; exact X0.out.2.1) HN.out).mono ?_
        rintro e w1 ⟨b1, v1, rfl, o1⟩
        have R1 := o1.row
        have hl1 := nodeNums_length HN.out
        have B1 : Hid (Below w.heap.size w w1) := Below.and HB0.out b1
        clear o1 b1
        go_wp2_with fail
        refine (l5Nums_any _ (nodeNums T ks) _ R1 (by omega)).mono ?_
        rintro e w2 ⟨b2, v2, ⟨hO, rfl, o2⟩ | ⟨hO, rfl, o2⟩⟩
        · have G : Hid (putNodeF T ks = some (formsB (nodeNums T ks))) := by show _ = _; unfold putNodeF; rw [if_pos ⟨HN.out, hO⟩]
          have FIN : Hid _ := And.intro o2 b2
          clear o2 b2 R1
          go_wp2
          refine bodyPost_ret (v := .tuple #[v2, .bool true]) (by simp [results, Tryd.results53, go_sem]) rfl ?_
          rw [G.out]
          exact ⟨⟨_, rfl, owns_mono FIN.out.1 B1.out.size⟩, Below.and B1.out FIN.out.2⟩
        · have G : Hid (putNodeF T ks = none) := by show _ = _; unfold putNodeF; rw [if_neg (fun h => hO h.2)]
          have FIN : Hid _ := And.intro o2 b2
          clear o2 b2 R1
          go_wp2
          refine bodyPost_ret (v := .tuple #[v2, .bool false]) (by simp [results, Tryd.results53, go_sem]) rfl ?_
          rw [G.out]
          exact ⟨⟨_, rfl, owns_mono FIN.out.1 B1.out.size⟩, Below.and B1.out FIN.out.2⟩
      · have d3 : 4 < (n1 : Int) := by omega
        have G : Hid (putNodeF T ks = none) := by show _ = _; unfold putNodeF; rw [if_neg (fun h => by have h := OKI.out.1 h.1; omega)]
        clear h2 h3
        go_enter Tryd.func53, Tryd.ntmps53
        go_wp2
        refine bodyPost_ret (v := .tuple #[.slice (some ⟨w.heap.size + 1, 0, none⟩) 0 0, .bool false]) (by simp [results, Tryd.results53, go_sem]) rfl ?_
        rw [G.out]
        exact ⟨⟨_, rfl, F0.out.1⟩, F0.out.2⟩
    · have d2 : 0 < (n3 : Int) + (n2 : Int) + (n4 : Int) := by omega
      have G : Hid (putNodeF T ks = none) := by show _ = _; unfold putNodeF; rw [if_neg (fun h => by have h := OKI.out.1 h.1; omega)]
      clear h2
      go_enter Tryd.func53, Tryd.ntmps53
      go_wp2
      refine bodyPost_ret (v := .tuple #[.slice (some ⟨w.heap.size + 1, 0, none⟩) 0 0, .bool false]) (by simp [results, Tryd.results53, go_sem]) rfl ?_
      rw [G.out]
      exact ⟨⟨_, rfl, F0.out.1⟩, F0.out.2⟩
  · have d1 : 0 < (nk : Int) := by omega
    have G : Hid (putNodeF T ks = none) := by show _ = _; unfold putNodeF; rw [if_neg (fun h => by have h := OKI.out.1 h.1; omega)]
    clear h1
    go_enter Tryd.func53, Tryd.ntmps53
    go_wp2
    refine bodyPost_ret (v := .tuple #[.slice (some ⟨w.heap.size + 1, 0, none⟩) 0 0, .bool false]) (by simp [results, Tryd.results53, go_sem]) rfl ?_
    rw [G.out]
    exact ⟨⟨_, rfl, F0.out.1⟩, F0.out.2⟩

set_option maxRecDepth 100000 in
set_option maxHeartbeats 40000000 in
theorem specPutNode_N (n : Nat) (a1 a2 a3 a4 : Option Addr) (q1 q2 q3 q4 : Nat) (T : Tr) (ak : Option Addr) (qk : Nat) (ks : List Int) (w : World) (hlf : T.leaf = false) (ht : TreeAt n w ⟨false, .slice a1 T.pairs.length q1, .slice a2 T.cuts.length q2, .slice a3 T.kids.length q3, .slice a4 T.buf.length q4⟩ T) (hks : Row w (.slice ak ks.length qk) ks.length (flatI ks)) (z1 : T.pairs.length ≤ 1099511627776) (z2 : T.cuts.length ≤ 1099511627776) (_z3 : T.kids.length ≤ 1099511627776) (z4 : T.buf.length ≤ 1099511627776) (z5 : ks.length ≤ 1099511627776) :
    Calls Tryd.prog 53 #[.agg #[.bool false, .slice a1 T.pairs.length q1, .slice a2 T.cuts.length q2, .slice a3 T.kids.length q3, .slice a4 T.buf.length q4], .slice ak ks.length qk] w fun e w' => PutPost w (putNodeF T ks) e w' ∧ Below w.heap.size w w' := by
  have b0 : Below w.heap.size w (w.alloc (.cells #[.bool false, .slice a1 T.pairs.length q1, .slice a2 T.cuts.length q2, .slice a3 T.kids.length q3, .slice a4 T.buf.length q4] 32)) := bel_new w _
  have X0 : Hid _ := And.intro (ht.below b0) (And.intro (hks.below b0) trivial)
  have HB0 : Hid _ := b0
  have e0 : OwnB w.heap.size ((w.alloc (.cells #[.bool false, .slice a1 T.pairs.length q1, .slice a2 T.cuts.length q2, .slice a3 T.kids.length q3, .slice a4 T.buf.length q4] 32)).alloc (.cells #[] 5)) (.slice (some ⟨w.heap.size + 1, 0, none⟩) 0 0) [] := by
    have := empty_own (w.alloc (.cells #[.bool false, .slice a1 T.pairs.length q1, .slice a2 T.cuts.length q2, .slice a3 T.kids.length q3, .slice a4 T.buf.length q4] 32)) w.heap.size 5 1 (by simp)
    rw [show (w.alloc (.cells #[.bool false, .slice a1 T.pairs.length q1, .slice a2 T.cuts.length q2, .slice a3 T.kids.length q3, .slice a4 T.buf.length q4] 32)).heap.size = w.heap.size + 1 by simp] at this
    exact this
  have F0 : Hid (OwnB w.heap.size ((w.alloc (.cells #[.bool false, .slice a1 T.pairs.length q1, .slice a2 T.cuts.length q2, .slice a3 T.kids.length q3, .slice a4 T.buf.length q4] 32)).alloc (.cells #[] 5)) (.slice (some ⟨w.heap.size + 1, 0, none⟩) 0 0) [] ∧ Below w.heap.size w ((w.alloc (.cells #[.bool false, .slice a1 T.pairs.length q1, .slice a2 T.cuts.length q2, .slice a3 T.kids.length q3, .slice a4 T.buf.length q4] 32)).alloc (.cells #[] 5))) := ⟨e0, b0.alloc (by simp) _⟩
  have OKI : Hid (nodeOkP T ks ↔ T.pairs.length = 0 ∧ ks.length = T.kids.length ∧ 1 ≤ ks.length ∧ ks.length ≤ 4 ∧ T.cuts.length + 1 = ks.length ∧ T.buf.length ≤ 6) := by show _ ↔ _; unfold nodeOkP; rw [if_neg (by rw [hlf]; decide)]
  clear ht hks b0 e0 hlf
  generalize T.pairs.length = n1 at *
  generalize T.cuts.length = n2 at *
  generalize T.kids.length = n3 at *
  generalize T.buf.length = n4 at *
  generalize hnk : ks.length = nk at *
  have HNK : Hid _ := hnk
  clear hnk
  by_cases h1 : nk = n3
  · have d1 : ((nk : Int) != (n3 : Int)) = false := by rw [bne_eq_false_iff_eq]; omega
    by_cases h2 : ¬ nk = 0
    · have d2 : ((nk : Int) == 0) = false := by rw [beq_eq_false_iff_ne]; omega
      by_cases h3 : nk ≤ 4
      · have d3 : (nk : Int) ≤ 4 := by omega
        by_cases h4 : n2 + 1 = nk
        · have d4 : ((n2 : Int) != (nk : Int) - 1) = false := by rw [bne_eq_false_iff_eq]; omega
          by_cases h5 : n1 = 0
          · subst h5
            by_cases h6 : n4 ≤ 6
            · have d6 : (n4 : Int) ≤ 6 := by omega
              have HN : Hid _ := OKI.out.2 (by omega)
              clear h1 h2 h3 h4 h6
              go_enter Tryd.func53, Tryd.ntmps53
              go_wp2_with fail
              refine (l5Node_any n ⟨false, .slice a1 0 q1, .slice a2 n2 q2, .slice a3 n3 q3, .slice a4 n4 q4⟩ T _ ks _ X0.out.1 (by rw [HNK.out]; exact X0.out.2.1) HN.out).mono ?_
              rintro e w1 ⟨b1, v1, rfl, o1⟩
              have R1 := o1.row
              have hl1 := nodeNums_length HN.out
              have B1 : Hid (Below w.heap.size w w1) := Below.and HB0.out b1
              clear o1 b1
              go_wp2_with fail
              refine (l5Nums_any _ (nodeNums T ks) _ R1 (by omega)).mono ?_
              rintro e w2 ⟨b2, v2, ⟨hO, rfl, o2⟩ | ⟨hO, rfl, o2⟩⟩
              · have G : Hid (putNodeF T ks = some (formsB (nodeNums T ks))) := by show _ = _; unfold putNodeF; rw [if_pos ⟨HN.out, hO⟩]
                have FIN : Hid _ := And.intro o2 b2
                clear o2 b2 R1
                go_wp2
                refine bodyPost_ret (v := .tuple #[v2, .bool true]) (by simp [results, Tryd.results53, go_sem]) rfl ?_
                rw [G.out]
                exact ⟨⟨_, rfl, owns_mono FIN.out.1 B1.out.size⟩, Below.and B1.out FIN.out.2⟩
              · have G : Hid (putNodeF T ks = none) := by show _ = _; unfold putNodeF; rw [if_neg (fun h => hO h.2)]
                have FIN : Hid _ := And.intro o2 b2
                clear o2 b2 R1
                go_wp2
                refine bodyPost_ret (v := .tuple #[v2, .bool false]) (by simp [results, Tryd.results53, go_sem]) rfl ?_
                rw [G.out]
                exact ⟨⟨_, rfl, owns_mono FIN.out.1 B1.out.size⟩, Below.and B1.out FIN.out.2⟩
            · have d6 : 6 < (n4 : Int) := by omega
              have G : Hid (putNodeF T ks = none) := by show _ = _; unfold putNodeF; rw [if_neg (fun h => by have h := OKI.out.1 h.1; omega)]
              clear h1 h2 h3 h4 h6
              go_enter Tryd.func53, Tryd.ntmps53
              go_wp2
              refine bodyPost_ret (v := .tuple #[.slice (some ⟨w.heap.size + 1, 0, none⟩) 0 0, .bool false]) (by simp [results, Tryd.results53, go_sem]) rfl ?_
              rw [G.out]
              exact ⟨⟨_, rfl, F0.out.1⟩, F0.out.2⟩
          · have d5 : 0 < (n1 : Int) := by omega
            have G : Hid (putNodeF T ks = none) := by show _ = _; unfold putNodeF; rw [if_neg (fun h => by have h := OKI.out.1 h.1; omega)]
            clear h1 h2 h3 h4 h5
            go_enter Tryd.func53, Tryd.ntmps53
            go_wp2
            refine bodyPost_ret (v := .tuple #[.slice (some ⟨w.heap.size + 1, 0, none⟩) 0 0, .bool false]) (by simp [results, Tryd.results53, go_sem]) rfl ?_
            rw [G.out]
            exact ⟨⟨_, rfl, F0.out.1⟩, F0.out.2⟩
        · have d4 : ((n2 : Int) != (nk : Int) - 1) = true := by rw [bne_iff_ne]; omega
          have G : Hid (putNodeF T ks = none) := by show _ = _; unfold putNodeF; rw [if_neg (fun h => by have h := OKI.out.1 h.1; omega)]
          clear h1 h2 h3 h4
          go_enter Tryd.func53, Tryd.ntmps53
          go_wp2
          refine bodyPost_ret (v := .tuple #[.slice (some ⟨w.heap.size + 1, 0, none⟩) 0 0, .bool false]) (by simp [results, Tryd.results53, go_sem]) rfl ?_
          rw [G.out]
          exact ⟨⟨_, rfl, F0.out.1⟩, F0.out.2⟩
      · have d3 : 4 < (nk : Int) := by omega
        have G : Hid (putNodeF T ks = none) := by show _ = _; unfold putNodeF; rw [if_neg (fun h => by have h := OKI.out.1 h.1; omega)]
        clear h1 h2 h3
        go_enter Tryd.func53, Tryd.ntmps53
        go_wp2
        refine bodyPost_ret (v := .tuple #[.slice (some ⟨w.heap.size + 1, 0, none⟩) 0 0, .bool false]) (by simp [results, Tryd.results53, go_sem]) rfl ?_
        rw [G.out]
        exact ⟨⟨_, rfl, F0.out.1⟩, F0.out.2⟩
    · have d2 : ((nk : Int) == 0) = true := by rw [beq_iff_eq]; omega
      have G : Hid (putNodeF T ks = none) := by show _ = _; unfold putNodeF; rw [if_neg (fun h => by have h := OKI.out.1 h.1; omega)]
      clear h1 h2
      go_enter Tryd.func53, Tryd.ntmps53
      go_wp2
      refine bodyPost_ret (v := .tuple #[.slice (some ⟨w.heap.size + 1, 0, none⟩) 0 0, .bool false]) (by simp [results, Tryd.results53, go_sem]) rfl ?_
      rw [G.out]
      exact ⟨⟨_, rfl, F0.out.1⟩, F0.out.2⟩
  · have d1 : ((nk : Int) != (n3 : Int)) = true := by rw [bne_iff_ne]; omega
    have G : Hid (putNodeF T ks = none) := by show _ = _; unfold putNodeF; rw [if_neg (fun h => by have h := OKI.out.1 h.1; omega)]
    clear h1
    go_enter Tryd.func53, Tryd.ntmps53
    go_wp2
    refine bodyPost_ret (v := .tuple #[.slice (some ⟨w.heap.size + 1, 0, none⟩) 0 0, .bool false]) (by simp [results, Tryd.results53, go_sem]) rfl ?_
    rw [G.out]
    exact ⟨⟨_, rfl, F0.out.1⟩, F0.out.2⟩

theorem specPutNode_any (n : Nat) (x : TV) (T : Tr) (v : Value) (ks : List Int) (w : World) (ht : TreeAt n w x T) (hks : Row w v ks.length (flatI ks)) (z1 : T.pairs.length ≤ 1099511627776) (z2 : T.cuts.length ≤ 1099511627776) (z3 : T.kids.length ≤ 1099511627776) (z4 : T.buf.length ≤ 1099511627776) (z5 : ks.length ≤ 1099511627776) :
    Calls Tryd.prog 53 #[x.val, v] w fun e w' => PutPost w (putNodeF T ks) e w' ∧ Below w.heap.size w w' := by
  obtain ⟨a1, a2, a3, a4, q1, q2, q3, q4, rfl⟩ := ht.shape
  obtain ⟨ak, qk, hvk, _⟩ := hks.len
  subst hvk
  cases hlf : T.leaf
  · rw [hlf] at ht
    exact specPutNode_N n a1 a2 a3 a4 q1 q2 q3 q4 T ak qk ks w hlf ht hks z1 z2 z3 z4 z5
  · rw [hlf] at ht
    exact specPutNode_P n a1 a2 a3 a4 q1 q2 q3 q4 T ak qk ks w hlf ht hks z1 z2 z3 z4 z5

end Go.Proofs.YtckphbmlmjlipaaDoor
