/-
  The program's GetNum: a mistake is a panic that it recovers.
  The program's numsOfNode and PutNode.
  The model's PutNode.
  What a drawn disk and a list of writes are within; rows of truths and lists of writes under way.
  A node read from its bytes, as plain functions; the program's reader: a count, a row of numbers.
  The program's reader: a leaf.
  A fork read from its bytes, as plain functions; what stands while the fork's struct is made in whatever order.
  The program's reader: a fork.
  The program's reader: a node.
  The program's GetNode: a mistake is a panic that it recovers.
-/
import Derived.Test.YtekcnibohikmdaaOfWrites14
import Derived.Test.YtekcnibohikmdaaOfWrites15
import Derived.Laws.Pointers
import Derived.Test.YtekcnibohikmdaaOfWrites13
import Derived.Test.YtekcnibohikmdaaOfWrites12
import Derived.Test.YtekcnibohikmdaaOfWrites10
import Derived.Test.YtekcnibohikmdaaOfWrites2
import Derived.Laws.OwnMore
import Derived.Deep.DeepCutAuto
namespace Go.Proofs.Ytekcnibohikmdaa
set_option maxRecDepth 100000
set_option maxHeartbeats 8000000
section
open Go.RowKit

def VarIs (w : World) (B : Nat) (v : Value) (t : TypeId) : Prop := w.heap[B]? = some (.cells #[v] t (0, 0))
end
section
open Go.RowKit

def PutPost (w : World) (g : Option (List Int)) (e : Ending) (w' : World) : Prop := ∃ v', (match g with
 | some bs => e = .returned (.tuple #[v', .bool true]) ∧ OwnB w.heap.size w' v' bs
 | none => e = .returned (.tuple #[v', .bool false]) ∧ OwnB w.heap.size w' v' [])
end
section
open Go.RowKit

theorem specPutNode_P (n : Nat) (a1 a2 a3 a4 : Option Addr) (q1 q2 q3 q4 : Nat) (T : Tr) (ak : Option Addr) (qk : Nat) (ks : List Int) (w : World) (hlf : T.leaf = true) (ht : TreeAt n w ⟨true, .slice a1 T.pairs.length q1, .slice a2 T.cuts.length q2, .slice a3 T.kids.length q3, .slice a4 T.buf.length q4⟩ T) (hks : Row w (.slice ak ks.length qk) ks.length (flatI ks)) (z1 : T.pairs.length ≤ 1099511627776) (z2 : T.cuts.length ≤ 1099511627776) (z3 : T.kids.length ≤ 1099511627776) (z4 : T.buf.length ≤ 1099511627776) (z5 : ks.length ≤ 1099511627776) :
  Calls Try.prog 37 #[.agg #[.bool true, .slice a1 T.pairs.length q1, .slice a2 T.cuts.length q2, .slice a3 T.kids.length q3, .slice a4 T.buf.length q4], .slice ak ks.length qk] w fun e w' => PutPost w (putNodeF T ks) e w' ∧ Below w.heap.size w w' := by
 have b0 : Below w.heap.size w (w.alloc (.cells #[.bool true, .slice a1 T.pairs.length q1, .slice a2 T.cuts.length q2, .slice a3 T.kids.length q3, .slice a4 T.buf.length q4] 54)) := bel_new w _
 have X0 : Hid _ := And.intro (ht.below b0) (And.intro (hks.below b0) trivial)
 have HB0 : Hid _ := b0
 have e0 : OwnB w.heap.size ((w.alloc (.cells #[.bool true, .slice a1 T.pairs.length q1, .slice a2 T.cuts.length q2, .slice a3 T.kids.length q3, .slice a4 T.buf.length q4] 54)).alloc (.cells #[] 5)) (.slice (some ⟨w.heap.size + 1, 0, none⟩) 0 0) [] := by
  have := empty_own (w.alloc (.cells #[.bool true, .slice a1 T.pairs.length q1, .slice a2 T.cuts.length q2, .slice a3 T.kids.length q3, .slice a4 T.buf.length q4] 54)) w.heap.size 5 1 (by simp)
  rw [show (w.alloc (.cells #[.bool true, .slice a1 T.pairs.length q1, .slice a2 T.cuts.length q2, .slice a3 T.kids.length q3, .slice a4 T.buf.length q4] 54)).heap.size = w.heap.size + 1 by simp] at this
  exact this
 have F0 : Hid (OwnB w.heap.size ((w.alloc (.cells #[.bool true, .slice a1 T.pairs.length q1, .slice a2 T.cuts.length q2, .slice a3 T.kids.length q3, .slice a4 T.buf.length q4] 54)).alloc (.cells #[] 5)) (.slice (some ⟨w.heap.size + 1, 0, none⟩) 0 0) [] ∧ Below w.heap.size w ((w.alloc (.cells #[.bool true, .slice a1 T.pairs.length q1, .slice a2 T.cuts.length q2, .slice a3 T.kids.length q3, .slice a4 T.buf.length q4] 54)).alloc (.cells #[] 5))) := ⟨e0, b0.alloc (by simp) _⟩
 have OKI : Hid (nodeOkP T ks ↔ ks.length = 0 ∧ T.cuts.length = 0 ∧ T.kids.length = 0 ∧ T.buf.length = 0 ∧ T.pairs.length ≤ 4) := by show _ ↔ _; unfold nodeOkP; rw [if_pos hlf]
 clear ht hks b0 e0 hlf
 generalize T.pairs.length = n1 at *
 generalize T.cuts.length = n2 at *
 generalize T.kids.length = n3 at *
 generalize T.buf.length = n4 at *
 generalize hnk : ks.length = nk at *
 have HNK : Hid _ := hnk
 clear hnk
 by_cases h1 : nk = 0
 ·subst h1
  by_cases h2 : n3 + n2 + n4 = 0
  ·obtain ⟨rfl, rfl, rfl⟩ : n3 = 0 ∧ n2 = 0 ∧ n4 = 0 := by omega
   by_cases h3 : n1 ≤ 4
   ·have d3 : (n1 : Int) ≤ 4 := by omega
    have HN : Hid _ := OKI.out.2 (by omega)
    clear h2 h3
    go_enter Try.func37, Try.ntmps37
    go_wp2_with fail
    refine (l5Node_any n ⟨true, .slice a1 n1 q1, .slice a2 0 q2, .slice a3 0 q3, .slice a4 0 q4⟩ T _ ks _ X0.out.1 (by rw [HNK.out]; exact X0.out.2.1) HN.out).mono ?_
    rintro e w1 ⟨b1, v1, rfl, o1⟩
    have R1 := o1.row
    have hl1 := nodeNums_length HN.out
    have B1 : Hid (Below w.heap.size w w1) := Below.and HB0.out b1
    clear o1 b1
    go_wp2_with fail
    refine (l5Nums_any _ (nodeNums T ks) _ R1 (by omega)).mono ?_
    rintro e w2 ⟨b2, v2, ⟨hO, rfl, o2⟩ | ⟨hO, rfl, o2⟩⟩
    ·have G : Hid (putNodeF T ks = some (formsB (nodeNums T ks))) := by show _ = _; unfold putNodeF; rw [if_pos ⟨HN.out, hO⟩]
     have FIN : Hid _ := And.intro o2 b2
     clear o2 b2 R1
     go_wp2
     refine bodyPost_ret (v := .tuple #[v2, .bool true]) (by simp [results, Try.results37, go_sem]) rfl ?_
     rw [G.out]
     exact ⟨⟨_, rfl, owns_mono FIN.out.1 B1.out.size⟩, Below.and B1.out FIN.out.2⟩
    ·have G : Hid (putNodeF T ks = none) := by show _ = _; unfold putNodeF; rw [if_neg (fun h => hO h.2)]
     have FIN : Hid _ := And.intro o2 b2
     clear o2 b2 R1
     go_wp2
     refine bodyPost_ret (v := .tuple #[v2, .bool false]) (by simp [results, Try.results37, go_sem]) rfl ?_
     rw [G.out]
     exact ⟨⟨_, rfl, owns_mono FIN.out.1 B1.out.size⟩, Below.and B1.out FIN.out.2⟩
   ·have d3 : 4 < (n1 : Int) := by omega
    have G : Hid (putNodeF T ks = none) := by show _ = _; unfold putNodeF; rw [if_neg (fun h => by have h := OKI.out.1 h.1; omega)]
    clear h2 h3
    go_enter Try.func37, Try.ntmps37
    go_wp2
    refine bodyPost_ret (v := .tuple #[.slice (some ⟨w.heap.size + 1, 0, none⟩) 0 0, .bool false]) (by simp [results, Try.results37, go_sem]) rfl ?_
    rw [G.out]
    exact ⟨⟨_, rfl, F0.out.1⟩, F0.out.2⟩
  ·have d2 : 0 < (n3 : Int) + (n2 : Int) + (n4 : Int) := by omega
   have G : Hid (putNodeF T ks = none) := by show _ = _; unfold putNodeF; rw [if_neg (fun h => by have h := OKI.out.1 h.1; omega)]
   clear h2
   go_enter Try.func37, Try.ntmps37
   go_wp2
   refine bodyPost_ret (v := .tuple #[.slice (some ⟨w.heap.size + 1, 0, none⟩) 0 0, .bool false]) (by simp [results, Try.results37, go_sem]) rfl ?_
   rw [G.out]
   exact ⟨⟨_, rfl, F0.out.1⟩, F0.out.2⟩
 ·have d1 : 0 < (nk : Int) := by omega
  have G : Hid (putNodeF T ks = none) := by show _ = _; unfold putNodeF; rw [if_neg (fun h => by have h := OKI.out.1 h.1; omega)]
  clear h1
  go_enter Try.func37, Try.ntmps37
  go_wp2
  refine bodyPost_ret (v := .tuple #[.slice (some ⟨w.heap.size + 1, 0, none⟩) 0 0, .bool false]) (by simp [results, Try.results37, go_sem]) rfl ?_
  rw [G.out]
  exact ⟨⟨_, rfl, F0.out.1⟩, F0.out.2⟩

theorem specPutNode_N (n : Nat) (a1 a2 a3 a4 : Option Addr) (q1 q2 q3 q4 : Nat) (T : Tr) (ak : Option Addr) (qk : Nat) (ks : List Int) (w : World) (hlf : T.leaf = false) (ht : TreeAt n w ⟨false, .slice a1 T.pairs.length q1, .slice a2 T.cuts.length q2, .slice a3 T.kids.length q3, .slice a4 T.buf.length q4⟩ T) (hks : Row w (.slice ak ks.length qk) ks.length (flatI ks)) (z1 : T.pairs.length ≤ 1099511627776) (z2 : T.cuts.length ≤ 1099511627776) (_z3 : T.kids.length ≤ 1099511627776) (z4 : T.buf.length ≤ 1099511627776) (z5 : ks.length ≤ 1099511627776) :
  Calls Try.prog 37 #[.agg #[.bool false, .slice a1 T.pairs.length q1, .slice a2 T.cuts.length q2, .slice a3 T.kids.length q3, .slice a4 T.buf.length q4], .slice ak ks.length qk] w fun e w' => PutPost w (putNodeF T ks) e w' ∧ Below w.heap.size w w' := by
 have b0 : Below w.heap.size w (w.alloc (.cells #[.bool false, .slice a1 T.pairs.length q1, .slice a2 T.cuts.length q2, .slice a3 T.kids.length q3, .slice a4 T.buf.length q4] 54)) := bel_new w _
 have X0 : Hid _ := And.intro (ht.below b0) (And.intro (hks.below b0) trivial)
 have HB0 : Hid _ := b0
 have e0 : OwnB w.heap.size ((w.alloc (.cells #[.bool false, .slice a1 T.pairs.length q1, .slice a2 T.cuts.length q2, .slice a3 T.kids.length q3, .slice a4 T.buf.length q4] 54)).alloc (.cells #[] 5)) (.slice (some ⟨w.heap.size + 1, 0, none⟩) 0 0) [] := by
  have := empty_own (w.alloc (.cells #[.bool false, .slice a1 T.pairs.length q1, .slice a2 T.cuts.length q2, .slice a3 T.kids.length q3, .slice a4 T.buf.length q4] 54)) w.heap.size 5 1 (by simp)
  rw [show (w.alloc (.cells #[.bool false, .slice a1 T.pairs.length q1, .slice a2 T.cuts.length q2, .slice a3 T.kids.length q3, .slice a4 T.buf.length q4] 54)).heap.size = w.heap.size + 1 by simp] at this
  exact this
 have F0 : Hid (OwnB w.heap.size ((w.alloc (.cells #[.bool false, .slice a1 T.pairs.length q1, .slice a2 T.cuts.length q2, .slice a3 T.kids.length q3, .slice a4 T.buf.length q4] 54)).alloc (.cells #[] 5)) (.slice (some ⟨w.heap.size + 1, 0, none⟩) 0 0) [] ∧ Below w.heap.size w ((w.alloc (.cells #[.bool false, .slice a1 T.pairs.length q1, .slice a2 T.cuts.length q2, .slice a3 T.kids.length q3, .slice a4 T.buf.length q4] 54)).alloc (.cells #[] 5))) := ⟨e0, b0.alloc (by simp) _⟩
 have OKI : Hid (nodeOkP T ks ↔ T.pairs.length = 0 ∧ ks.length = T.kids.length ∧ 1 ≤ ks.length ∧ ks.length ≤ 4 ∧ T.cuts.length + 1 = ks.length ∧ T.buf.length ≤ 6) := by show _ ↔ _; unfold nodeOkP; rw [if_neg (by rw [hlf]; decide)]
 clear ht hks b0 e0 hlf
 generalize T.pairs.length = n1 at *
 generalize T.cuts.length = n2 at *
 generalize T.kids.length = n3 at *
 generalize T.buf.length = n4 at *
 generalize hnk : ks.length = nk at *
 have HNK : Hid _ := hnk
 clear hnk
 by_cases h1 : nk = n3
 ·have d1 : ((nk : Int) != (n3 : Int)) = false := by rw [bne_eq_false_iff_eq]; omega
  by_cases h2 : ¬ nk = 0
  ·have d2 : ((nk : Int) == 0) = false := by rw [beq_eq_false_iff_ne]; omega
   by_cases h3 : nk ≤ 4
   ·have d3 : (nk : Int) ≤ 4 := by omega
    by_cases h4 : n2 + 1 = nk
    ·have d4 : ((n2 : Int) != (nk : Int) - 1) = false := by rw [bne_eq_false_iff_eq]; omega
     by_cases h5 : n1 = 0
     ·subst h5
      by_cases h6 : n4 ≤ 6
      ·have d6 : (n4 : Int) ≤ 6 := by omega
       have HN : Hid _ := OKI.out.2 (by omega)
       clear h1 h2 h3 h4 h6
       go_enter Try.func37, Try.ntmps37
       go_wp2_with fail
       refine (l5Node_any n ⟨false, .slice a1 0 q1, .slice a2 n2 q2, .slice a3 n3 q3, .slice a4 n4 q4⟩ T _ ks _ X0.out.1 (by rw [HNK.out]; exact X0.out.2.1) HN.out).mono ?_
       rintro e w1 ⟨b1, v1, rfl, o1⟩
       have R1 := o1.row
       have hl1 := nodeNums_length HN.out
       have B1 : Hid (Below w.heap.size w w1) := Below.and HB0.out b1
       clear o1 b1
       go_wp2_with fail
       refine (l5Nums_any _ (nodeNums T ks) _ R1 (by omega)).mono ?_
       rintro e w2 ⟨b2, v2, ⟨hO, rfl, o2⟩ | ⟨hO, rfl, o2⟩⟩
       ·have G : Hid (putNodeF T ks = some (formsB (nodeNums T ks))) := by show _ = _; unfold putNodeF; rw [if_pos ⟨HN.out, hO⟩]
        have FIN : Hid _ := And.intro o2 b2
        clear o2 b2 R1
        go_wp2
        refine bodyPost_ret (v := .tuple #[v2, .bool true]) (by simp [results, Try.results37, go_sem]) rfl ?_
        rw [G.out]
        exact ⟨⟨_, rfl, owns_mono FIN.out.1 B1.out.size⟩, Below.and B1.out FIN.out.2⟩
       ·have G : Hid (putNodeF T ks = none) := by show _ = _; unfold putNodeF; rw [if_neg (fun h => hO h.2)]
        have FIN : Hid _ := And.intro o2 b2
        clear o2 b2 R1
        go_wp2
        refine bodyPost_ret (v := .tuple #[v2, .bool false]) (by simp [results, Try.results37, go_sem]) rfl ?_
        rw [G.out]
        exact ⟨⟨_, rfl, owns_mono FIN.out.1 B1.out.size⟩, Below.and B1.out FIN.out.2⟩
      ·have d6 : 6 < (n4 : Int) := by omega
       have G : Hid (putNodeF T ks = none) := by show _ = _; unfold putNodeF; rw [if_neg (fun h => by have h := OKI.out.1 h.1; omega)]
       clear h1 h2 h3 h4 h6
       go_enter Try.func37, Try.ntmps37
       go_wp2
       refine bodyPost_ret (v := .tuple #[.slice (some ⟨w.heap.size + 1, 0, none⟩) 0 0, .bool false]) (by simp [results, Try.results37, go_sem]) rfl ?_
       rw [G.out]
       exact ⟨⟨_, rfl, F0.out.1⟩, F0.out.2⟩
     ·have d5 : 0 < (n1 : Int) := by omega
      have G : Hid (putNodeF T ks = none) := by show _ = _; unfold putNodeF; rw [if_neg (fun h => by have h := OKI.out.1 h.1; omega)]
      clear h1 h2 h3 h4 h5
      go_enter Try.func37, Try.ntmps37
      go_wp2
      refine bodyPost_ret (v := .tuple #[.slice (some ⟨w.heap.size + 1, 0, none⟩) 0 0, .bool false]) (by simp [results, Try.results37, go_sem]) rfl ?_
      rw [G.out]
      exact ⟨⟨_, rfl, F0.out.1⟩, F0.out.2⟩
    ·have d4 : ((n2 : Int) != (nk : Int) - 1) = true := by rw [bne_iff_ne]; omega
     have G : Hid (putNodeF T ks = none) := by show _ = _; unfold putNodeF; rw [if_neg (fun h => by have h := OKI.out.1 h.1; omega)]
     clear h1 h2 h3 h4
     go_enter Try.func37, Try.ntmps37
     go_wp2
     refine bodyPost_ret (v := .tuple #[.slice (some ⟨w.heap.size + 1, 0, none⟩) 0 0, .bool false]) (by simp [results, Try.results37, go_sem]) rfl ?_
     rw [G.out]
     exact ⟨⟨_, rfl, F0.out.1⟩, F0.out.2⟩
   ·have d3 : 4 < (nk : Int) := by omega
    have G : Hid (putNodeF T ks = none) := by show _ = _; unfold putNodeF; rw [if_neg (fun h => by have h := OKI.out.1 h.1; omega)]
    clear h1 h2 h3
    go_enter Try.func37, Try.ntmps37
    go_wp2
    refine bodyPost_ret (v := .tuple #[.slice (some ⟨w.heap.size + 1, 0, none⟩) 0 0, .bool false]) (by simp [results, Try.results37, go_sem]) rfl ?_
    rw [G.out]
    exact ⟨⟨_, rfl, F0.out.1⟩, F0.out.2⟩
  ·have d2 : ((nk : Int) == 0) = true := by rw [beq_iff_eq]; omega
   have G : Hid (putNodeF T ks = none) := by show _ = _; unfold putNodeF; rw [if_neg (fun h => by have h := OKI.out.1 h.1; omega)]
   clear h1 h2
   go_enter Try.func37, Try.ntmps37
   go_wp2
   refine bodyPost_ret (v := .tuple #[.slice (some ⟨w.heap.size + 1, 0, none⟩) 0 0, .bool false]) (by simp [results, Try.results37, go_sem]) rfl ?_
   rw [G.out]
   exact ⟨⟨_, rfl, F0.out.1⟩, F0.out.2⟩
 ·have d1 : ((nk : Int) != (n3 : Int)) = true := by rw [bne_iff_ne]; omega
  have G : Hid (putNodeF T ks = none) := by show _ = _; unfold putNodeF; rw [if_neg (fun h => by have h := OKI.out.1 h.1; omega)]
  clear h1
  go_enter Try.func37, Try.ntmps37
  go_wp2
  refine bodyPost_ret (v := .tuple #[.slice (some ⟨w.heap.size + 1, 0, none⟩) 0 0, .bool false]) (by simp [results, Try.results37, go_sem]) rfl ?_
  rw [G.out]
  exact ⟨⟨_, rfl, F0.out.1⟩, F0.out.2⟩

theorem specPutNode_any (n : Nat) (x : TV) (T : Tr) (v : Value) (ks : List Int) (w : World) (ht : TreeAt n w x T) (hks : Row w v ks.length (flatI ks)) (z1 : T.pairs.length ≤ 1099511627776) (z2 : T.cuts.length ≤ 1099511627776) (z3 : T.kids.length ≤ 1099511627776) (z4 : T.buf.length ≤ 1099511627776) (z5 : ks.length ≤ 1099511627776) :
  Calls Try.prog 37 #[x.val, v] w fun e w' => PutPost w (putNodeF T ks) e w' ∧ Below w.heap.size w w' := by
 obtain ⟨a1, a2, a3, a4, q1, q2, q3, q4, rfl⟩ := ht.shape
 obtain ⟨ak, qk, hvk, _⟩ := hks.len
 subst hvk
 cases hlf : T.leaf
 ·rw [hlf] at ht
  exact specPutNode_N n a1 a2 a3 a4 q1 q2 q3 q4 T ak qk ks w hlf ht hks z1 z2 z3 z4 z5
 ·rw [hlf] at ht
  exact specPutNode_P n a1 a2 a3 a4 q1 q2 q3 q4 T ak qk ks w hlf ht hks z1 z2 z3 z4 z5
end
section
open Go.RowKit

def PageOk (P : PgL) : Prop := P.length ≤ 200 ∧ ∀ s ∈ P, s.size ≤ 200
def WrOk (x : Wr) : Prop := (-9223372036854775808 ≤ x.1 ∧ x.1 ≤ 9223372036854775807) ∧ x.2.1.size ≤ 200
theorem wrtP_ok {P : PgL} (h : PageOk P) (a : Int) {t : ByteArray} (ht : t.size ≤ 200) : PageOk (wrtP P a t) := by
 refine ⟨by rw [wrtP_length]; exact h.1, fun s hs => ?_⟩
 unfold wrtP at hs
 split at hs
 ·rcases List.mem_or_eq_of_mem_set hs with h' | h'
  ·exact h.2 s h'
  ·rw [h']; exact ht
 ·exact h.2 s hs
theorem dkP_ok : ∀ (l : List Wr) {P : PgL}, PageOk P → (∀ x ∈ l, WrOk x) → PageOk (dkP P l)
 | [], _, h, _ => h
 | x :: l, _, h, hl => dkP_ok l (wrtP_ok h x.1 (hl x (by simp)).2) (fun y hy => hl y (by simp [hy]))
def Seen (w : World) (G n : Nat) : Prop := ∃ bs : List Bool, bs.length = n ∧ w.ownsRow G 4 1 (.slice (some ⟨G, 0, none⟩) n n) n (flatL bs)
theorem Seen.lt {w : World} {G n : Nat} (h : Seen w G n) : G < w.heap.size := by
 obtain ⟨bs, hl, o⟩ := h
 exact (o.lt G rfl).2
theorem Seen.chg {F : Nat → Prop} {w w' : World} {G n : Nat} (h : Seen w G n) (hc : Chg F w w') (hF : ¬ F G) : Seen w' G n := by
 obtain ⟨bs, hl, o⟩ := h
 refine ⟨bs, hl, owns_chg o hc (fun g hg => ?_)⟩
 simp [Value.ownBlock] at hg
 subst hg; exact hF
theorem Seen.below {w w' : World} {G n : Nat} (h : Seen w G n) (hb : Below w.heap.size w w') : Seen w' G n := h.chg (Chg.of_below (F := fun _ => False) hb) id
theorem Seen.get {w : World} {G n : Nat} (h : Seen w G n) {i : Nat} (hi : i < n) : ∃ b : Bool, w.cell? ⟨G, i, none⟩ = some (.bool b) := by
 obtain ⟨bs, hl, o⟩ := h
 exact ⟨_, (o.cellAt i (by omega)).trans (flatL_at bs i (by omega))⟩
theorem Seen.live {w : World} {G n : Nat} (h : Seen w G n) (i : Nat) : w.frozen? ⟨G, i, none⟩ = false := by
 obtain ⟨bs, hl, o⟩ := h
 exact o.frozenAt i
theorem Seen.set {w : World} {G n : Nat} (h : Seen w G n) (i : Nat) (b : Bool) : Seen (w.setCell ⟨G, i, none⟩ (.bool b)) G n := by
 obtain ⟨bs, hl, o⟩ := h
 have st := (o.stored i (.bool b)).1
 rw [flatL_set] at st
 exact ⟨bs.set i b, by simp [hl], st⟩
theorem putNodeF_size {T : Tr} {ks bs : List Int} (h : putNodeF T ks = some bs) : bs.length ≤ 200 := by
 unfold putNodeF at h
 split at h
 ·rename_i hn
  injection h with h
  subst h
  have h1 := formsB_length (nodeNums T ks)
  have h2 := nodeNums_length hn.1
  omega
 ·cases h
end
section
open Go.RowKit

def numsN (bs : List Int) (at_ : Int) : Nat → Option (List Int × Int)
 | 0 => some ([], at_)
 | k + 1 => match numsN bs at_ k with
  | none => none
  | some (l, p) => match getN bs p with
   | none => none
   | some (x, q) => some (l ++ [x], q)
theorem numsN_none {bs : List Int} {at_ : Int} {k : Nat} (h : numsN bs at_ k = none) : ∀ n, k ≤ n → numsN bs at_ n = none := by
 intro n hn
 induction n with
 | zero =>
  obtain rfl : k = 0 := by omega
  exact h
 | succ n ih =>
  by_cases hk : k = n + 1
  ·rw [← hk]; exact h
  ·rw [numsN, ih (by omega)]
theorem numsN_length {bs : List Int} {at_ : Int} : ∀ {k : Nat} {l : List Int} {p : Int}, numsN bs at_ k = some (l, p) → l.length = k := by
 intro k
 induction k with
 | zero => intro l p h; simp [numsN] at h; rw [h.1]; rfl
 | succ k ih =>
  intro l p h
  rw [numsN] at h
  cases hq : numsN bs at_ k with
  | none => rw [hq] at h; cases h
  | some lp =>
   obtain ⟨l', p'⟩ := lp
   rw [hq] at h
   cases hg : getN bs p' with
   | none => simp only [hg] at h; cases h
   | some xq =>
    obtain ⟨x, q⟩ := xq
    simp only [hg, Option.some.injEq, Prod.mk.injEq] at h
    rw [← h.1]; simp [ih hq]
def countN (bs : List Int) (at_ lo hi : Int) : Option (Int × Int) := match getN bs at_ with
 | none => none
 | some (x, p) => if lo ≤ x ∧ x ≤ hi then some (x, p) else none
theorem countN_in {bs : List Int} {at_ lo hi x p : Int} (h : countN bs at_ lo hi = some (x, p)) : lo ≤ x ∧ x ≤ hi ∧ getN bs at_ = some (x, p) := by
 unfold countN at h
 cases hg : getN bs at_ with
 | none => rw [hg] at h; cases h
 | some xp =>
  obtain ⟨x', p'⟩ := xp
  rw [hg] at h
  simp only at h
  split at h
  ·rename_i hc
   simp only [Option.some.injEq, Prod.mk.injEq] at h
   obtain ⟨rfl, rfl⟩ := h
   exact ⟨hc.1, hc.2, rfl⟩
  ·cases h
end
section
open Go.RowKit

def pairsN (bs : List Int) (at_ : Int) : Nat → Option (List (Int × Int) × Int)
 | 0 => some ([], at_)
 | k + 1 => match pairsN bs at_ k with
  | none => none
  | some (l, p) => match numsN bs p 2 with
   | some ([x, y], q) => some (l ++ [(x, y)], q)
   | _ => none
theorem pairsN_none {bs : List Int} {at_ : Int} {k : Nat} (h : pairsN bs at_ k = none) : ∀ n, k ≤ n → pairsN bs at_ n = none := by
 intro n hn
 induction n with
 | zero =>
  obtain rfl : k = 0 := by omega
  exact h
 | succ n ih =>
  by_cases hk : k = n + 1
  ·rw [← hk]; exact h
  ·rw [pairsN, ih (by omega)]
theorem pairsN_length {bs : List Int} {at_ : Int} : ∀ {k : Nat} {l : List (Int × Int)} {p : Int}, pairsN bs at_ k = some (l, p) → l.length = k := by
 intro k
 induction k with
 | zero => intro l p h; simp [pairsN] at h; rw [h.1]; rfl
 | succ k ih =>
  intro l p h
  rw [pairsN] at h
  cases hq : pairsN bs at_ k with
  | none => rw [hq] at h; cases h
  | some lp =>
   obtain ⟨l', p'⟩ := lp
   rw [hq] at h
   simp only at h
   split at h
   ·simp only [Option.some.injEq, Prod.mk.injEq] at h
    rw [← h.1]; simp [ih hq]
   ·cases h
def sef5 (W : World) (R : Nat) (a b c d e : Value) : World := ((((W.setCell ⟨R, 0, none⟩ a).setCell ⟨R, 1, none⟩ b).setCell ⟨R, 2, none⟩ c).setCell ⟨R, 3, none⟩ d).setCell ⟨R, 4, none⟩ e
theorem sef5_at {W : World} {R : Nat} {t : TypeId} {x0 x1 x2 x3 x4 : Value} (a b c d e : Value) (h : W.heap[R]? = some (.cells #[x0, x1, x2, x3, x4] t (0, 0))) : (sef5 W R a b c d e).heap[R]? = some (.cells #[a, b, c, d, e] t (0, 0)) := by
 have h0 := heap_setCell_same W R 0 _ _ a h
 have h1 := heap_setCell_same _ R 1 _ _ b h0
 have h2 := heap_setCell_same _ R 2 _ _ c h1
 have h3 := heap_setCell_same _ R 3 _ _ d h2
 have h4 := heap_setCell_same _ R 4 _ _ e h3
 simpa [sef5] using h4
theorem sef5_chg (W : World) (R : Nat) (a b c d e : Value) : Chg (fun g => g = R) W (sef5 W R a b c d e) :=
 (((((Chg.refl (fun g => g = R) W).setAt R 0 rfl a).setAt R 1 rfl b).setAt R 2 rfl c).setAt R 3 rfl d).setAt R 4 rfl e
def leafN (bs : List Int) (at_ : Int) : Option (List (Int × Int) × Int) := match countN bs at_ 0 4 with
 | none => none
 | some (n, p) => pairsN bs p n.toNat

theorem Try.infoPair : (Try.prog.info? 76).map (fun i => (i.zero, i.size, i.bytes)) = some (some (.agg #[.int .i64 0, .int .i64 0]), 2, 16) := by kernel_rfl
theorem flatP_oneC (l : List (Int × Int)) : ∀ y ∈ flatP l, y.oneCell' = true := flatP_one l
theorem roomP {n m : Nat} (h : n + m ≤ 100000) : n + m ≤ maxLen ∧ (n + m) * 16 ≤ 140737488355328 := ⟨by unfold maxLen; omega, by omega⟩
end
section
open Go.RowKit

def msgsN (bs : List Int) (at_ : Int) : Nat → Option (List (Int × Int × Int) × Int)
 | 0 => some ([], at_)
 | k + 1 => match msgsN bs at_ k with
  | none => none
  | some (l, p) => match numsN bs p 3 with
   | some ([x, y, z], q) => some (l ++ [(x, y, z)], q)
   | _ => none
theorem msgsN_none {bs : List Int} {at_ : Int} {k : Nat} (h : msgsN bs at_ k = none) : ∀ n, k ≤ n → msgsN bs at_ n = none := by
 intro n hn
 induction n with
 | zero =>
  obtain rfl : k = 0 := by omega
  exact h
 | succ n ih =>
  by_cases hk : k = n + 1
  ·rw [← hk]; exact h
  ·rw [msgsN, ih (by omega)]
theorem msgsN_length {bs : List Int} {at_ : Int} : ∀ {k : Nat} {l : List (Int × Int × Int)} {p : Int}, msgsN bs at_ k = some (l, p) → l.length = k := by
 intro k
 induction k with
 | zero => intro l p h; simp [msgsN] at h; rw [h.1]; rfl
 | succ k ih =>
  intro l p h
  rw [msgsN] at h
  cases hq : msgsN bs at_ k with
  | none => rw [hq] at h; cases h
  | some lp =>
   obtain ⟨l', p'⟩ := lp
   rw [hq] at h
   simp only at h
   split at h
   ·simp only [Option.some.injEq, Prod.mk.injEq] at h
    rw [← h.1]; simp [ih hq]
   ·cases h
structure ForkV where
 kids : List Int
 cuts : List Int
 buf : List (Int × Int × Int)
def forkC (bs : List Int) (p : Int) (ks cs : List Int) : Option (ForkV × Int) := match countN bs p 0 6 with
 | none => none
 | some (m, q) => match msgsN bs q m.toNat with
  | none => none
  | some (ms, r) => some (⟨ks, cs, ms⟩, r)
def forkB (bs : List Int) (p : Int) (k : Nat) (ks : List Int) : Option (ForkV × Int) := match numsN bs p k with
 | none => none
 | some (cs, q) => forkC bs q ks cs
def forkA (bs : List Int) (p : Int) (k : Nat) : Option (ForkV × Int) := match numsN bs p (k + 1) with
 | none => none
 | some (ks, q) => forkB bs q k ks
def forkN (bs : List Int) (at_ : Int) : Option (ForkV × Int) := match countN bs at_ 1 4 with
 | none => none
 | some (n, p) => forkA bs p (n - 1).toNat

abbrev treeZ : Value := .agg #[.bool false, .slice none 0 0, .slice none 0 0, .slice none 0 0, .slice none 0 0]
theorem Try.infoTree : (Try.prog.info? 54).map (fun i => (i.zero, i.size, i.bytes)) = some (some treeZ, 5, 104) := by kernel_rfl
theorem Try.infoMsg : (Try.prog.info? 73).map (fun i => (i.zero, i.size, i.bytes)) = some (some (.agg #[.int .i64 0, .int .i64 0, .int .i64 0]), 3, 24) := by kernel_rfl
structure ForkR (w4 : World) (P k : Nat) (q : Int) (c : Option (Value × List Int)) (m a : Option Nat) (u : World) : Prop where
 chg : Chg (fun g => g = P) w4 u
 place : PlaceIs u P q
 low : P < w4.heap.size
 cuts : ∀ x, c = some x → OwnI w4.heap.size u x.1 x.2
 made : ∀ M, m = some M → w4.heap.size ≤ M ∧ u.heap[M]? = some (.cells (madeCells #[.bool false, .slice none 0 0, .slice none 0 0, .slice none 0 0, .slice none 0 0] ((k + 1) * 5)) 54 (0, 0))
 box : ∀ A, a = some A → w4.heap.size ≤ A ∧ u.heap[A]? = some (.cells #[.bool false, .slice none 0 0, .slice none 0 0, .slice none 0 0, .slice none 0 0] 54 (0, 0))
 ne : ∀ M A, m = some M → a = some A → M ≠ A
variable {w4 u u' : World} {P k : Nat} {q q' : Int} {c : Option (Value × List Int)} {m a : Option Nat}
structure ForkM (w4 : World) (P k : Nat) (p4 : Int) (A M : Nat) (vc : Value) (cs : List Int) (q : Int) (bs : List Int) (u : World) : Prop where
 chg : Chg (fun g => g = P) w4 u
 place : PlaceIs u P q
 low : P < w4.heap.size
 told : numsN bs p4 k = some (cs, q)
 cuts : OwnI w4.heap.size u vc cs
 free : ¬ vc.ownBlock = some A
 madeLe : w4.heap.size ≤ M
 made : u.heap[M]? = some (.cells (madeCells #[.bool false, .slice none 0 0, .slice none 0 0, .slice none 0 0, .slice none 0 0] ((k + 1) * 5)) 54 (0, 0))
 boxLe : w4.heap.size ≤ A
 box : u.heap[A]? = some (.cells #[.bool false, .slice none 0 0, vc, .slice (some ⟨M, 0, none⟩) (k + 1) (k + 1), .slice none 0 0] 54 (0, 0))
 ne : M ≠ A
theorem flatM_oneC (l : List (Int × Int × Int)) : ∀ y ∈ flatM l, y.oneCell' = true := by
 intro y hy
 obtain ⟨m, _, hm⟩ := List.mem_flatMap.1 hy
 simp only [List.mem_cons, List.not_mem_nil, or_false] at hm
 rcases hm with rfl | rfl | rfl <;> rfl
theorem roomM {n m : Nat} (h : n + m ≤ 100000) : n + m ≤ maxLen ∧ (n + m) * 24 ≤ 140737488355328 := ⟨by unfold maxLen; omega, by omega⟩
end
section
open Go.RowKit
end
section
open Go.RowKit

abbrev NodeV := List (Int × Int) ⊕ ForkV
def nodeN (bs : List Int) (at_ : Int) : Option (NodeV × Int) := match getN bs at_ with
 | none => none
 | some (x, p) => if x = 1 then (match leafN bs p with | none => none | some (l, q) => some (.inl l, q)) else if x = 0 then (match forkN bs p with | none => none | some (f, q) => some (.inr f, q)) else none
def NodeAt (base : Nat) (w' : World) (vt vk : Value) : NodeV → Prop
 | .inl l => ∃ vp, vt = .agg #[.bool true, vp, .slice none 0 0, .slice none 0 0, .slice none 0 0] ∧ vk = .slice none 0 0 ∧ OwnE w' base 76 2 vp l.length (flatP l)
 | .inr f => ∃ (vc vb : Value) (M N : Nat), vt = .agg #[.bool false, .slice none 0 0, vc, .slice (some ⟨M, 0, none⟩) f.kids.length f.kids.length, vb] ∧ base ≤ N ∧ OwnI base w' vk f.kids ∧ (∀ g, vk.ownBlock = some g → g < N) ∧ OwnI N w' vc f.cuts ∧ OwnE w' N 73 3 vb f.buf.length (flatM f.buf) ∧
   N ≤ M ∧ w'.heap[M]? = some (.cells (madeCells #[.bool false, .slice none 0 0, .slice none 0 0, .slice none 0 0, .slice none 0 0] (f.kids.length * 5)) 54 (0, 0))
end
section
open Go.RowKit

def BoxIs (w : World) (a : Nat) (x0 x1 x2 x3 x4 : Value) : Prop := w.heap[a]? = some (.cells #[x0, x1, x2, x3, x4] 54 (0, 0))
theorem BoxIs.cell {w : World} {a : Nat} {x0 x1 x2 x3 x4 : Value} (h : BoxIs w a x0 x1 x2 x3 x4) : w.cell? ⟨a, 0, none⟩ = some x0 ∧ w.cell? ⟨a, 1, none⟩ = some x1 ∧ w.cell? ⟨a, 2, none⟩ = some x2 ∧ w.cell? ⟨a, 3, none⟩ = some x3 ∧ w.cell? ⟨a, 4, none⟩ = some x4 := by
 refine ⟨?_, ?_, ?_, ?_, ?_⟩ <;> (rw [cell_of_cells h]; rfl)
theorem BoxIs.live {w : World} {a : Nat} {x0 x1 x2 x3 x4 : Value} (h : BoxIs w a x0 x1 x2 x3 x4) (j : Nat) : w.frozen? ⟨a, j, none⟩ = false := frozen_of_cells h
theorem BoxIs.chg {F : Nat → Prop} {w w' : World} {a : Nat} {x0 x1 x2 x3 x4 : Value} (h : BoxIs w a x0 x1 x2 x3 x4) (hc : Chg F w w') (hF : ¬ F a) : BoxIs w' a x0 x1 x2 x3 x4 := row_chg h hc hF
def getNodeF (bs : List Int) : Option NodeV := match nodeN bs 0 with
 | none => none
 | some (n, p) => if p = (bs.length : Int) then some n else none
def GetNodePost (base : Nat) (g : Option NodeV) (e : Ending) (w' : World) : Prop := match g with
 | some n => ∃ vt vk, e = .returned (.tuple #[vt, vk, .bool true]) ∧ NodeAt base w' vt vk n
 | none => e = .returned (.tuple #[treeZ, .slice none 0 0, .bool false])
end
end Go.Proofs.Ytekcnibohikmdaa
