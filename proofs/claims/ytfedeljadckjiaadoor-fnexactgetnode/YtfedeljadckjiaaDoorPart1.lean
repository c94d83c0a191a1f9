/-
  The laws' own functions that write marks into a list of messages, and look for them.
  Contracts of the laws' own functions that hold two trees against each other.
  Strong contracts of the laws' marks: numbers; lists that are empty; trees whose kids are zero.
  Strong contracts of the laws' marks: trees whose kids are zero.
  The marks of what GetNode tells: written, and looked for.
  The laws' markTree and heldTree at what GetNode tells.
  The laws' markIntS, heldTree and heldIntS at what GetNode tells.
  The laws' own copy of a row of bytes.
  The walk of the law FnExactGetNode.
-/
import Derived.Test.YtfedeljadckjiaaDoorMsgs
import Derived.Test.YtfedeljadckjiaaDoorMarks
import Derived.Test.YtfedeljadckjiaaDoorTree
import Derived.Test.YtfedeljadckjiaaDoorNodeMath
import Derived.Test.YtfedeljadckjiaaDoorSTest
import Derived.Test.YtfedeljadckjiaaDoorNode
import Derived.Test.YtfedeljadckjiaaDoorByteM
import Derived.Test.YtfedeljadckjiaaDoorGetNode
namespace Go.Proofs.YtfedeljadckjiaaDoor
open Go.RowKit

def marksM (k : Int) (n : Nat) : ML := (List.range n).map fun (i : Nat) => (k + 3 * i, k + 3 * i + 1, k + 3 * i + 2)
theorem marksM_length (k : Int) (n : Nat) : (marksM k n).length = n := by simp [marksM]
theorem marksM_succ (k : Int) (n : Nat) : marksM k (n + 1) = marksM k n ++ [(k + 3 * n, k + 3 * n + 1, k + 3 * n + 2)] := by simp [marksM, List.range_succ]
theorem marksM_at (k : Int) (n i : Nat) (h : i < n) : mO (marksM k n) i = k + 3 * i ∧ mK (marksM k n) i = k + 3 * i + 1 ∧ mV (marksM k n) i = k + 3 * i + 2 := by
  simp [marksM, mO, mK, mV, List.getD, h]
def midM (k : Int) (l : ML) (i : Nat) : ML := marksM k i ++ l.drop i
theorem midM_length (k : Int) (l : ML) (i : Nat) (h : i ≤ l.length) : (midM k l i).length = l.length := by simp [midM, marksM_length]; omega
theorem midM_zero (k : Int) (l : ML) : midM k l 0 = l := by simp [midM, marksM]
theorem midM_full (k : Int) (l : ML) : midM k l l.length = marksM k l.length := by simp [midM]
theorem midM_step (k : Int) (l : ML) (i : Nat) (h : i < l.length) : (midM k l i).set i (k + 3 * i, k + 3 * i + 1, k + 3 * i + 2) = midM k l (i + 1) := by
  rw [midM, midM, marksM_succ, List.drop_eq_getElem_cons h, List.set_append_right _ _ (by rw [marksM_length]; omega), marksM_length, Nat.sub_self, List.set_cons_zero]
  simp

theorem owns_cap {w : World} {base e size n cap : Nat} {a : Option Addr} {xs : List Value} (h : w.ownsRow base e size (.slice a n cap) n xs) : cap ≤ maxLen := by
  obtain ⟨_, ⟨e, _⟩ | ⟨g, cap', cur, e, _, _, _, hc, _⟩⟩ := h
  · simp at e; rw [e.2.2]; exact Nat.zero_le _
  · simp at e; rw [e.2]; exact hc

set_option maxRecDepth 100000 in
set_option maxHeartbeats 1000000 in
theorem markMsgS_any (v : Value) (l : ML) (k : Int) (w : World) (h : w.ownsRow 0 75 3 v l.length (flatM l)) (hn : l.length ≤ 4194304) (hk0 : 0 ≤ k) (hk1 : k ≤ 4194304) :
    Calls Tryd.prog 68 #[v, .int .i64 k] w fun e w' => e = .returned (.int .i64 (k + 3 * l.length)) ∧ w'.ownsRow 0 75 3 v l.length (flatM (marksM k l.length)) ∧ Chg (fun g => v.ownBlock = some g) w w' := by
  obtain ⟨a, cap, hv⟩ := owns_val h
  have OW : Hid (w.ownsRow 0 75 3 v l.length (flatM l)) := h
  clear h
  rw [hv] at OW ⊢
  clear hv
  have hcap := owns_cap OW.out
  unfold maxLen at hcap
  go_enter Tryd.func68, Tryd.ntmps68
  go_wp2
  go_loopw [1, 5] (fun kk i wr => ∃ j : Nat, j ≤ l.length ∧ i = .int .i64 j ∧ kk = .int .i64 (k + 3 * j) ∧ wr.ownsRow 0 75 3 (.slice a l.length cap) l.length (flatM (midM k l j)) ∧ Chg (fun g => (Value.slice a l.length cap).ownBlock = some g) w wr)
    (fun _ i _ => l.length - (intOf i).toNat)
  case atStart => exact ⟨0, Nat.zero_le _, rfl, by simp, by rw [midM_zero]; exact OW.out, Chg.refl _ _⟩
  case round =>
    obtain ⟨j, hj, rfl, rfl, hown, hch⟩ := hrel
    by_cases hlt : j < l.length
    · have hex : ∃ g, a = some ⟨g, 0, none⟩ := by
        obtain ⟨_, ⟨e, e2⟩ | ⟨g, cap', cur, e, _⟩⟩ := hown
        · omega
        · simp at e; exact ⟨g, e.1⟩
      obtain ⟨g, rfl⟩ := hex
      have hml : (midM k l j).length = l.length := midM_length k l j hj
      have hat := flatM_at (midM k l j) j (by omega)
      have e0 := (hown.cellAt (j * 3) (by omega)).trans hat.1
      have e1 := (hown.cellAt (j * 3 + 1) (by omega)).trans hat.2.1
      have e2 := (hown.cellAt (j * 3 + 2) (by omega)).trans hat.2.2
      have f0 := hown.frozenAt (j * 3)
      have f1 := hown.frozenAt (j * 3 + 1)
      have f2 := hown.frozenAt (j * 3 + 2)
      have st := (hown.stored (j * 3) (.int .i64 (k + 3 * j))).1
      have st2 := (st.stored (j * 3 + 1) (.int .i64 (k + 3 * j + 1))).1
      have st3 := (st2.stored (j * 3 + 2) (.int .i64 (k + 3 * j + 2))).1
      rw [flatM_set _ _ _ _ j (by omega), midM_step k l j hlt] at st3
      have hch2 : Chg (fun g' => (Value.slice (some ⟨g, 0, none⟩) l.length cap).ownBlock = some g') w (((wr.setCell ⟨g, j * 3, none⟩ (.int .i64 (k + 3 * j))).setCell ⟨g, j * 3 + 1, none⟩ (.int .i64 (k + 3 * j + 1))).setCell ⟨g, j * 3 + 2, none⟩ (.int .i64 (k + 3 * j + 2))) :=
        ((hch.setAt g _ rfl _).setAt g _ rfl _).setAt g _ rfl _
      generalize mO (midM k l j) j = x0 at *
      generalize mK (midM k l j) j = x1 at *
      generalize mV (midM k l j) j = x2 at *
      have ST : Hid _ := And.intro st3 hch2
      clear st st2 st3 hch2 hown hch hml hat OW
      have hb0 : 0 ≤ k + 3 * (j : Int) := by omega
      have hb1 : k + 3 * (j : Int) ≤ 100000000 := by omega
      go_wp2
      go_roundw
      case rel => exact ⟨j + 1, by omega, by go_num, by go_num, by rw [show k + 3 * (j : Int) + 2 = k + 3 * (j : Int) + 1 + 1 by omega] at ST; exact ST.out.1, by rw [show k + 3 * (j : Int) + 2 = k + 3 * (j : Int) + 1 + 1 by omega] at ST; exact ST.out.2⟩
      case measure => simp [intOf]; omega
    · have hjl : j = l.length := by omega
      subst hjl
      go_wp2
      go_ret
      rw [midM_full] at hown
      exact ⟨rfl, hown, hch⟩

set_option maxRecDepth 100000 in
set_option maxHeartbeats 1000000 in
theorem heldMsgS_any (v : Value) (n : Nat) (k : Int) (w : World) (h : Row w v n (flatM (marksM k n))) (hn : n ≤ 4194304) (hk0 : 0 ≤ k) (hk1 : k ≤ 4194304) :
    Calls Tryd.prog 71 #[v, .int .i64 k] w fun e w' => e = .returned (.int .i64 (k + 3 * n)) ∧ w' = w := by
  have h' : Row w v (marksM k n).length (flatM (marksM k n)) := by rw [marksM_length]; exact h
  obtain ⟨a, b, off, cap, rfl, hcap, hmax, ha, ho, hk, hv⟩ := h'.msgs
  rw [marksM_length] at *
  unfold maxLen at hmax
  clear h h'
  go_enter Tryd.func71, Tryd.ntmps71
  go_wp2
  go_loop [1, 5] (fun kk i => ∃ j : Nat, j ≤ n ∧ i = .int .i64 j ∧ kk = .int .i64 (k + 3 * j)) (fun _ i => n - (intOf i).toNat)
  case atStart => exact ⟨0, Nat.zero_le _, rfl, by simp⟩
  case round =>
    obtain ⟨j, hj, rfl, rfl⟩ := hrel
    by_cases hlt : j < n
    · have hal := ha (by omega)
      subst hal
      have d0 : w.cell? ⟨b, off + j * 3, none⟩ = some (.int .i64 (k + 3 * j)) := by rw [ho j hlt, (marksM_at k n j hlt).1]
      have d1 : w.cell? ⟨b, off + j * 3 + 1, none⟩ = some (.int .i64 (k + 3 * j + 1)) := by rw [hk j hlt, (marksM_at k n j hlt).2.1]
      have d2 : w.cell? ⟨b, off + j * 3 + 2, none⟩ = some (.int .i64 (k + 3 * j + 1 + 1)) := by rw [hv j hlt, (marksM_at k n j hlt).2.2, show k + 3 * (j : Int) + 2 = k + 3 * (j : Int) + 1 + 1 by omega]
      clear ho hk hv
      have hb0 : 0 ≤ k + 3 * (j : Int) := by omega
      have hb1 : k + 3 * (j : Int) ≤ 100000000 := by omega
      go_wp2
      go_round
      case rel => exact ⟨j + 1, by omega, by go_num, by go_num⟩
      case measure => simp [intOf]; omega
    · have hjl : j = n := by omega
      subst hjl
      go_wp2
      go_ret
      exact ⟨rfl, rfl⟩

end Go.Proofs.YtfedeljadckjiaaDoor

namespace Go.Proofs.YtfedeljadckjiaaDoor
open Go.RowKit

theorem il_ext {l1 l2 : List Int} (hl : l1.length = l2.length) (h : ∀ i, i < l1.length → iAt l1 i = iAt l2 i) : l1 = l2 := by
  apply List.ext_getElem hl
  intro i h1 h2
  have := h i h1
  simpa [iAt, List.getD, h1, h2] using this

set_option maxHeartbeats 1000000 in
theorem eqIntS_any (v1 v2 : Value) (l1 l2 : List Int) (w : World) (h1 : Row w v1 l1.length (flatI l1)) (h2 : Row w v2 l2.length (flatI l2)) :
    Calls Tryd.prog 31 #[v1, v2] w fun e w' => e = .returned (.bool (decide (l1 = l2))) ∧ Below w.heap.size w w' := by
  obtain ⟨a, b, off, cap, rfl, hcap, hmax, ha, hk⟩ := h1.ints
  obtain ⟨a2, b2, off2, cap2, rfl, hcap2, hmax2, ha2, hk2⟩ := h2.ints
  unfold maxLen at hmax hmax2
  by_cases hl : l1.length = l2.length
  · have hne : ((l1.length : Int) != (l2.length : Int)) = false := by rw [bne_eq_false_iff_eq]; omega
    have HL : Hid (l1.length = l2.length) := hl
    have hl2 : l1.length ≤ l2.length := by omega
    clear hl
    go_enter Tryd.func31, Tryd.ntmps31
    go_wp2
    go_loopw [5] (fun i wr => ∃ k : Nat, k ≤ l1.length ∧ i = .int .i64 k ∧ Hid (∀ i, i < k → iAt l1 i = iAt l2 i) ∧ Below w.heap.size w wr)
      (fun i _ => l1.length - (intOf i).toNat)
    case atStart => exact ⟨0, Nat.zero_le _, rfl, fun i hi => absurd hi (Nat.not_lt_zero _), Below.refl _ _⟩
    case round =>
      obtain ⟨k, hkl, rfl, ALL, hb⟩ := hrel
      by_cases hlt : k < l1.length
      · have hal := ha (by omega)
        subst hal
        have hal2 := ha2 (by omega)
        subst hal2
        have hlt2 : k < l2.length := by omega
        have d0 := (hb.cell (by exact cell_lt (hk k hlt))).trans (hk k hlt)
        have d1 := (hb.cell (by exact cell_lt (hk2 k hlt2))).trans (hk2 k hlt2)
        clear hk ha hk2 ha2
        by_cases hq : iAt l1 k = iAt l2 k
        · have hq' : (iAt l1 k != iAt l2 k) = false := by rw [bne_eq_false_iff_eq]; exact hq
          have EQ : Hid (iAt l1 k = iAt l2 k) := hq
          clear hq
          go_wp2_with fail
          go_quiet (fail)
          go_wp2
          go_roundw
          case rel => exact ⟨k + 1, by omega, by go_num, fun i hi => if h : i < k then ALL.out i h else by rw [show i = k by omega]; exact EQ.out, below_drewN hb _⟩
          case measure => simp [intOf]; omega
        · have hq' : (iAt l1 k != iAt l2 k) = true := by rw [bne_iff_ne]; exact hq
          have NE : Hid (decide (l1 = l2) = false) := decide_eq_false (fun e => hq (by rw [e]))
          clear hq
          go_wp2_with fail
          go_quiet (fail)
          go_wp2
          go_ret
          exact ⟨ret_bool NE.out.symm, below_drewN hb _⟩
      · go_wp2
        go_ret
        refine ⟨ret_bool ?_, hb⟩
        symm
        rw [decide_eq_true_iff]
        exact il_ext HL.out (fun i hi => ALL.out i (by omega))
  · have hne : ((l1.length : Int) != (l2.length : Int)) = true := by rw [bne_iff_ne]; omega
    go_enter Tryd.func31, Tryd.ntmps31
    go_wp2
    go_ret
    refine ⟨ret_bool ?_, Below.refl _ _⟩
    symm
    rw [decide_eq_false_iff_not]
    intro h; exact hl (by rw [h])

/-- WHAT eqTree, eqTreeS SAY OF ONE TREE IN TWO PLACES. -/
def EqTree (n : Nat) : Prop := ∀ (x y : TV) (T : Tr) (w : World), TreeAt n w x T → TreeAt n w y T →
    Calls Tryd.prog 30 #[x.val, y.val] w fun e w' => e = .returned (.bool true) ∧ Below w.heap.size w w'
def EqTreeS (n : Nat) : Prop := ∀ (v u : Value) (ts : List Tr) (w : World), TreesAt n w v ts → TreesAt n w u ts →
    Calls Tryd.prog 64 #[v, u] w fun e w' => e = .returned (.bool true) ∧ Below w.heap.size w w'

set_option maxHeartbeats 2000000 in
theorem eqTreeS_of {n : Nat} (H : EqTree n) : EqTreeS n := by
  intro v u ts w hv hu
  obtain ⟨xs, hxl, hrow, hk⟩ := hv
  obtain ⟨ys, hyl, hrow2, hk2⟩ := hu
  obtain ⟨a, b, off, cap, rfl, hcap, hmax, ha, c0, c1, c2, c3, c4⟩ := hrow.trees
  obtain ⟨a2, b2, off2, cap2, rfl, hcap2, hmax2, ha2, g0, g1, g2, g3, g4⟩ := hrow2.trees
  unfold maxLen at hmax hmax2
  have hl2 : xs.length ≤ ys.length := by omega
  have hne : ((xs.length : Int) != (ys.length : Int)) = false := by rw [bne_eq_false_iff_eq]; omega
  clear hxl hyl
  go_enter Tryd.func64, Tryd.ntmps64
  go_wp2
  go_loopw [5] (fun i wr => ∃ k : Nat, k ≤ xs.length ∧ i = .int .i64 k ∧ Below w.heap.size w wr)
    (fun i _ => xs.length - (intOf i).toNat)
  case atStart => exact ⟨0, Nat.zero_le _, rfl, Below.refl _ _⟩
  case round =>
    obtain ⟨k, hkl, rfl, hb⟩ := hrel
    by_cases hlt : k < xs.length
    · have hal := ha (by omega)
      subst hal
      have hal2 := ha2 (by omega)
      subst hal2
      have hlt2 : k < ys.length := by omega
      have d0 := (hb.cell (by exact cell_lt (c0 k hlt))).trans (c0 k hlt)
      have d1 := (hb.cell (by exact cell_lt (c1 k hlt))).trans (c1 k hlt)
      have d2 := (hb.cell (by exact cell_lt (c2 k hlt))).trans (c2 k hlt)
      have d3 := (hb.cell (by exact cell_lt (c3 k hlt))).trans (c3 k hlt)
      have d4 := (hb.cell (by exact cell_lt (c4 k hlt))).trans (c4 k hlt)
      have e0 := (hb.cell (by exact cell_lt (g0 k hlt2))).trans (g0 k hlt2)
      have e1 := (hb.cell (by exact cell_lt (g1 k hlt2))).trans (g1 k hlt2)
      have e2 := (hb.cell (by exact cell_lt (g2 k hlt2))).trans (g2 k hlt2)
      have e3 := (hb.cell (by exact cell_lt (g3 k hlt2))).trans (g3 k hlt2)
      have e4 := (hb.cell (by exact cell_lt (g4 k hlt2))).trans (g4 k hlt2)
      have T0 : Hid (TreeAt n wr.drew (tvAt xs k) (ts.getD k noTr)) := (hk k hlt).below hb.drew
      have T1 : Hid (TreeAt n wr.drew (tvAt ys k) (ts.getD k noTr)) := (hk2 k hlt2).below hb.drew
      clear c0 c1 c2 c3 c4 hk hrow ha g0 g1 g2 g3 g4 hk2 hrow2 ha2
      go_wp2_with fail
      go_region_with (go_at_call 30; refine (H (tvAt xs k) (tvAt ys k) _ _ T0.out T1.out).mono ?_; rintro e w1 ⟨rfl, hb1⟩)
      all_goals
        go_wp2
        go_roundw
        case rel => exact ⟨k + 1, by omega, by go_num, hb.drew.trans (hb1.mono hb.size)⟩
        case measure => simp [intOf]; omega
    · clear c0 c1 c2 c3 c4 hk hrow ha g0 g1 g2 g3 g4 hk2 hrow2 ha2
      go_wp2
      go_ret
      exact ⟨rfl, hb⟩

/-- TWO BLOCKS, one behind the other. -/
structure TwoAt (u : World) (B : Nat) (A Z : Array Value) : Prop where
  h0 : u.heap[B]? = some (.cells A 29 (0, 0))
  h1 : u.heap[B + 1]? = some (.cells Z 29 (0, 0))
theorem TwoAt.step {u w' : World} {B : Nat} {A Z : Array Value} (h : TwoAt u B A Z) (hb : Below u.heap.size u w') : TwoAt w' B A Z := by
  have hs := (Array.getElem?_eq_some_iff.1 h.h1).1
  exact ⟨(hb.block _ (by omega)).trans h.h0, (hb.block _ (by omega)).trans h.h1⟩
theorem TwoAt.cells {u : World} {B : Nat} {A Z : Array Value} (h : TwoAt u B A Z) : (∀ j, u.cell? ⟨B, j, none⟩ = A[j]?) ∧ (∀ j, u.cell? ⟨B + 1, j, none⟩ = Z[j]?) :=
  ⟨fun j => cell_of_row u B j A 29 (0, 0) h.h0, fun j => cell_of_row u (B + 1) j Z 29 (0, 0) h.h1⟩
theorem TwoAt.start (w : World) (A Z : Array Value) : TwoAt ((w.alloc (.cells A 29)).alloc (.cells Z 29)) w.heap.size A Z := by
  have e : ∀ (x : World) (o : Obj), (x.alloc o).heap.size = x.heap.size + 1 := fun x o => by simp
  have k1 : ∀ (x : World) (o : Obj) (g : Nat), g < x.heap.size → (x.alloc o).heap[g]? = x.heap[g]? := fun x o g hg => ((Below.refl x.heap.size x).alloc (Nat.le_refl _) o).block g hg
  refine ⟨?_, ?_⟩
  · rw [k1 _ _ _ (by rw [e]; omega)]; exact heap_alloc_new w _
  · rw [← e w (.cells A 29)]; exact heap_alloc_new _ _

set_option maxHeartbeats 2000000 in
theorem eqTree_of {n : Nat} (H : EqTreeS n) : EqTree (n + 1) := by
  intro x y T w ht hu
  obtain ⟨lf, p, c, k, b⟩ := x
  obtain ⟨lf2, p2, c2, k2, b2⟩ := y
  obtain ⟨hlf, hp, hc, hb, hk⟩ := ht.parts
  obtain ⟨hlf2, hp2, hc2, hb2, hk2⟩ := hu.parts
  simp only at hlf hp hc hb hk hlf2 hp2 hc2 hb2 hk2
  subst hlf
  subst hlf2
  have R1 : Hid (Row w p T.pairs.length (flatP T.pairs)) := hp
  have R2 : Hid (Row w c T.cuts.length (flatI T.cuts)) := hc
  have R3 : Hid (TreesAt n w k T.kids) := hk
  have R4 : Hid (Row w b T.buf.length (flatM T.buf)) := hb
  have Q1 : Hid (Row w p2 T.pairs.length (flatP T.pairs)) := hp2
  have Q2 : Hid (Row w c2 T.cuts.length (flatI T.cuts)) := hc2
  have Q3 : Hid (TreesAt n w k2 T.kids) := hk2
  have Q4 : Hid (Row w b2 T.buf.length (flatM T.buf)) := hb2
  clear hp hc hb hk ht hp2 hc2 hb2 hk2 hu
  have hlf : (T.leaf != T.leaf) = false := by simp
  show Calls Tryd.prog 30 #[.agg #[.bool T.leaf, p, c, k, b], .agg #[.bool T.leaf, p2, c2, k2, b2]] w _
  have B0 : Hid (Below w.heap.size w ((w.alloc (.cells #[.bool T.leaf, p, c, k, b] 29)).alloc (.cells #[.bool T.leaf, p2, c2, k2, b2] 29))) := ((Below.refl _ _).alloc (Nat.le_refl _) _).alloc (by simp) _
  have S0 : Hid (TwoAt _ w.heap.size _ _) := TwoAt.start w #[.bool T.leaf, p, c, k, b] #[.bool T.leaf, p2, c2, k2, b2]
  go_enter Tryd.func30, Tryd.ntmps30
  go_wp2_with fail
  refine (eqPairS_any _ _ _ _ _ (R1.out.below B0.out) (Q1.out.below B0.out)).mono ?_
  rintro e w1 ⟨he, hb1⟩
  rw [decide_eq_true rfl] at he
  subst he
  have B1 : Hid (Below w.heap.size w w1) := Below.and B0.out hb1
  have S1 : Hid (TwoAt w1 w.heap.size #[.bool T.leaf, p, c, k, b] #[.bool T.leaf, p2, c2, k2, b2]) := S0.out.step hb1
  obtain ⟨k0, k1⟩ := S1.out.cells
  clear B0 S0 hb1
  go_wp2_with fail
  refine (eqIntS_any _ _ _ _ _ (R2.out.below B1.out) (Q2.out.below B1.out)).mono ?_
  rintro e w2 ⟨he, hb2⟩
  rw [decide_eq_true rfl] at he
  subst he
  have B2 : Hid (Below w.heap.size w w2) := Below.and B1.out hb2
  have S2 : Hid (TwoAt w2 w.heap.size #[.bool T.leaf, p, c, k, b] #[.bool T.leaf, p2, c2, k2, b2]) := S1.out.step hb2
  clear B1 S1 hb2 k0 k1
  obtain ⟨k0, k1⟩ := S2.out.cells
  go_wp2_with fail
  refine (H _ _ T.kids _ (R3.out.below B2.out) (Q3.out.below B2.out)).mono ?_
  rintro e w3 ⟨rfl, hb3⟩
  have B3 : Hid (Below w.heap.size w w3) := Below.and B2.out hb3
  have S3 : Hid (TwoAt w3 w.heap.size #[.bool T.leaf, p, c, k, b] #[.bool T.leaf, p2, c2, k2, b2]) := S2.out.step hb3
  clear B2 S2 hb3 k0 k1
  obtain ⟨k0, k1⟩ := S3.out.cells
  go_wp2_with fail
  refine (eqMsgS_any _ _ _ _ _ (R4.out.below B3.out) (Q4.out.below B3.out)).mono ?_
  rintro e w4 ⟨he, hb4⟩
  rw [decide_eq_true rfl] at he
  subst he
  have B4 : Hid (Below w.heap.size w w4) := Below.and B3.out hb4
  clear B3 S3 hb4 k0 k1
  go_wp2
  go_ret
  exact ⟨rfl, B4.out⟩

theorem eqTree_any : ∀ n, EqTree n
  | 0 => fun _ _ _ _ h => h.elim
  | n + 1 => eqTree_of (eqTreeS_of (eqTree_any n))

end Go.Proofs.YtfedeljadckjiaaDoor

namespace Go.Proofs.YtfedeljadckjiaaDoor
open Go.RowKit

def marksI (k : Int) (n : Nat) : List Int := (List.range n).map fun (i : Nat) => k + i
theorem marksI_length (k : Int) (n : Nat) : (marksI k n).length = n := by simp [marksI]
theorem marksI_succ (k : Int) (n : Nat) : marksI k (n + 1) = marksI k n ++ [k + n] := by simp [marksI, List.range_succ]
theorem marksI_at (k : Int) (n i : Nat) (h : i < n) : iAt (marksI k n) i = k + i := by simp [marksI, iAt, List.getD, h]
def midI (k : Int) (l : List Int) (i : Nat) : List Int := marksI k i ++ l.drop i
theorem midI_length (k : Int) (l : List Int) (i : Nat) (h : i ≤ l.length) : (midI k l i).length = l.length := by simp [midI, marksI_length]; omega
theorem midI_zero (k : Int) (l : List Int) : midI k l 0 = l := by simp [midI, marksI]
theorem midI_full (k : Int) (l : List Int) : midI k l l.length = marksI k l.length := by simp [midI]
theorem midI_step (k : Int) (l : List Int) (i : Nat) (h : i < l.length) : (midI k l i).set i (k + i) = midI k l (i + 1) := by
  rw [midI, midI, marksI_succ, List.drop_eq_getElem_cons h, List.set_append_right _ _ (by rw [marksI_length]; omega), marksI_length, Nat.sub_self, List.set_cons_zero]
  simp
theorem flatI_setI (l : List Int) (s : Int) (i : Nat) : (flatI l).set i (.int .i64 s) = flatI (l.set i s) := by simp [flatI, List.map_set]
theorem flatI_atI (l : List Int) (i : Nat) (h : i < l.length) : (flatI l)[i]? = some (.int .i64 (iAt l i)) := by simp [flatI, iAt, List.getD, h]

set_option maxHeartbeats 1000000 in
theorem markIntS_s (v : Value) (l : List Int) (k : Int) (w : World) (h : w.ownsRow 0 3 1 v l.length (flatI l)) (hn : l.length ≤ 100000) (hk0 : 0 ≤ k) (hk1 : k ≤ 4194304) :
    Calls Tryd.prog 33 #[v, .int .i64 k] w fun e w' => e = .returned (.int .i64 (k + l.length)) ∧ w'.ownsRow 0 3 1 v l.length (flatI (marksI k l.length)) ∧ Chg (fun g => v.ownBlock = some g) w w' := by
  obtain ⟨a, cap, hv⟩ := owns_val h
  have hcap : cap ≤ maxLen := by
    obtain ⟨_, ⟨e, _⟩ | ⟨g, cap', cur, e, _, _, _, hc, _⟩⟩ := h
    · rw [hv] at e; simp at e; rw [e.2.2]; exact Nat.zero_le _
    · rw [hv] at e; simp at e; rw [e.2]; exact hc
  unfold maxLen at hcap
  have OW : Hid (w.ownsRow 0 3 1 v l.length (flatI l)) := h
  clear h
  rw [hv] at OW ⊢
  clear hv
  go_enter Tryd.func33, Tryd.ntmps33
  go_wp2
  go_loopw [1, 5] (fun kk i wr => ∃ j : Nat, j ≤ l.length ∧ i = .int .i64 j ∧ kk = .int .i64 (k + j) ∧ wr.ownsRow 0 3 1 (.slice a l.length cap) l.length (flatI (midI k l j)) ∧ Chg (fun g => (Value.slice a l.length cap).ownBlock = some g) w wr)
    (fun _ i _ => l.length - (intOf i).toNat)
  case atStart => exact ⟨0, Nat.zero_le _, rfl, by simp, by rw [midI_zero]; exact OW.out, Chg.refl _ _⟩
  case round =>
    obtain ⟨j, hj, rfl, rfl, hown, hch⟩ := hrel
    by_cases hlt : j < l.length
    · have hex : ∃ g, a = some ⟨g, 0, none⟩ := by
        obtain ⟨_, ⟨e, e2⟩ | ⟨g, cap', cur, e, _⟩⟩ := hown
        · omega
        · simp at e; exact ⟨g, e.1⟩
      obtain ⟨g, rfl⟩ := hex
      have hml : (midI k l j).length = l.length := midI_length k l j hj
      have hat := flatI_atI (midI k l j) j (by omega)
      have e0 := (hown.cellAt j (by omega)).trans hat
      have f0 := hown.frozenAt j
      have st := (hown.stored j (.int .i64 (k + j))).1
      rw [flatI_setI, midI_step k l j hlt] at st
      have hch2 : Chg (fun g' => (Value.slice (some ⟨g, 0, none⟩) l.length cap).ownBlock = some g') w (wr.setCell ⟨g, j, none⟩ (.int .i64 (k + j))) := hch.setAt g _ rfl _
      generalize iAt (midI k l j) j = x0 at *
      have ST : Hid _ := And.intro st hch2
      clear st hch2 hown hch hml hat OW
      have hb0 : 0 ≤ k + (j : Int) := by omega
      have hb1 : k + (j : Int) ≤ 100000000 := by omega
      go_wp2
      go_roundw
      case rel => exact ⟨j + 1, by omega, by go_num, by go_num, ST.out.1, ST.out.2⟩
      case measure => simp [intOf]; omega
    · have hjl : j = l.length := by omega
      subst hjl
      go_wp2
      go_ret
      rw [midI_full] at hown
      exact ⟨rfl, hown, hch⟩

set_option maxHeartbeats 1000000 in
theorem heldIntS_s (v : Value) (n : Nat) (k : Int) (w : World) (h : Row w v n (flatI (marksI k n))) (hn : n ≤ 100000) (hk0 : 0 ≤ k) (hk1 : k ≤ 4194304) :
    Calls Tryd.prog 37 #[v, .int .i64 k] w fun e w' => e = .returned (.int .i64 (k + n)) ∧ w' = w := by
  have h' : Row w v (marksI k n).length (flatI (marksI k n)) := by rw [marksI_length]; exact h
  obtain ⟨a, b, off, cap, rfl, hcap, hmax, ha, hk⟩ := h'.ints
  rw [marksI_length] at *
  unfold maxLen at hmax
  clear h h'
  go_enter Tryd.func37, Tryd.ntmps37
  go_wp2
  go_loop [1, 5] (fun kk i => ∃ j : Nat, j ≤ n ∧ i = .int .i64 j ∧ kk = .int .i64 (k + j)) (fun _ i => n - (intOf i).toNat)
  case atStart => exact ⟨0, Nat.zero_le _, rfl, by simp⟩
  case round =>
    obtain ⟨j, hj, rfl, rfl⟩ := hrel
    by_cases hlt : j < n
    · have hal := ha (by omega)
      subst hal
      have d0 : w.cell? ⟨b, off + j, none⟩ = some (.int .i64 (k + j)) := by rw [hk j hlt, marksI_at k n j hlt]
      clear hk
      have hb0 : 0 ≤ k + (j : Int) := by omega
      have hb1 : k + (j : Int) ≤ 100000000 := by omega
      go_wp2
      go_round
      case rel => exact ⟨j + 1, by omega, by go_num, by go_num⟩
      case measure => simp [intOf]; omega
    · have hjl : j = n := by omega
      subst hjl
      go_wp2
      go_ret
      exact ⟨rfl, rfl⟩

set_option maxHeartbeats 400000 in
theorem markPairS_nil (a : Option Addr) (q : Nat) (k : Int) (w : World) : Calls Tryd.prog 66 #[.slice a 0 q, .int .i64 k] w fun e w' => e = .returned (.int .i64 k) ∧ w' = w := by
  go_enter Tryd.func66, Tryd.ntmps66
  go_wp2
  go_loop [1, 5] (fun kk i => kk = .int .i64 k ∧ i = .int .i64 0) (fun _ _ => 0)
  case atStart => exact ⟨rfl, rfl⟩
  case round =>
    obtain ⟨rfl, rfl⟩ := hrel
    go_wp2
    go_ret
    exact ⟨rfl, rfl⟩
set_option maxHeartbeats 400000 in
theorem heldPairS_nil (a : Option Addr) (q : Nat) (k : Int) (w : World) : Calls Tryd.prog 69 #[.slice a 0 q, .int .i64 k] w fun e w' => e = .returned (.int .i64 k) ∧ w' = w := by
  go_enter Tryd.func69, Tryd.ntmps69
  go_wp2
  go_loop [1, 5] (fun kk i => kk = .int .i64 k ∧ i = .int .i64 0) (fun _ _ => 0)
  case atStart => exact ⟨rfl, rfl⟩
  case round =>
    obtain ⟨rfl, rfl⟩ := hrel
    go_wp2
    go_ret
    exact ⟨rfl, rfl⟩
set_option maxHeartbeats 400000 in
theorem markIntS_nil (a : Option Addr) (q : Nat) (k : Int) (w : World) : Calls Tryd.prog 33 #[.slice a 0 q, .int .i64 k] w fun e w' => e = .returned (.int .i64 k) ∧ w' = w := by
  go_enter Tryd.func33, Tryd.ntmps33
  go_wp2
  go_loop [1, 5] (fun kk i => kk = .int .i64 k ∧ i = .int .i64 0) (fun _ _ => 0)
  case atStart => exact ⟨rfl, rfl⟩
  case round =>
    obtain ⟨rfl, rfl⟩ := hrel
    go_wp2
    go_ret
    exact ⟨rfl, rfl⟩
set_option maxHeartbeats 400000 in
theorem heldIntS_nil (a : Option Addr) (q : Nat) (k : Int) (w : World) : Calls Tryd.prog 37 #[.slice a 0 q, .int .i64 k] w fun e w' => e = .returned (.int .i64 k) ∧ w' = w := by
  go_enter Tryd.func37, Tryd.ntmps37
  go_wp2
  go_loop [1, 5] (fun kk i => kk = .int .i64 k ∧ i = .int .i64 0) (fun _ _ => 0)
  case atStart => exact ⟨rfl, rfl⟩
  case round =>
    obtain ⟨rfl, rfl⟩ := hrel
    go_wp2
    go_ret
    exact ⟨rfl, rfl⟩
set_option maxHeartbeats 400000 in
theorem markMsgS_nil (a : Option Addr) (q : Nat) (k : Int) (w : World) : Calls Tryd.prog 68 #[.slice a 0 q, .int .i64 k] w fun e w' => e = .returned (.int .i64 k) ∧ w' = w := by
  go_enter Tryd.func68, Tryd.ntmps68
  go_wp2
  go_loop [1, 5] (fun kk i => kk = .int .i64 k ∧ i = .int .i64 0) (fun _ _ => 0)
  case atStart => exact ⟨rfl, rfl⟩
  case round =>
    obtain ⟨rfl, rfl⟩ := hrel
    go_wp2
    go_ret
    exact ⟨rfl, rfl⟩
set_option maxHeartbeats 400000 in
theorem heldMsgS_nil (a : Option Addr) (q : Nat) (k : Int) (w : World) : Calls Tryd.prog 71 #[.slice a 0 q, .int .i64 k] w fun e w' => e = .returned (.int .i64 k) ∧ w' = w := by
  go_enter Tryd.func71, Tryd.ntmps71
  go_wp2
  go_loop [1, 5] (fun kk i => kk = .int .i64 k ∧ i = .int .i64 0) (fun _ _ => 0)
  case atStart => exact ⟨rfl, rfl⟩
  case round =>
    obtain ⟨rfl, rfl⟩ := hrel
    go_wp2
    go_ret
    exact ⟨rfl, rfl⟩
set_option maxHeartbeats 400000 in
theorem markTreeS_nil (a : Option Addr) (q : Nat) (k : Int) (w : World) : Calls Tryd.prog 67 #[.slice a 0 q, .int .i64 k] w fun e w' => e = .returned (.int .i64 k) ∧ w' = w := by
  go_enter Tryd.func67, Tryd.ntmps67
  go_wp2
  go_loop [1, 5] (fun kk i => kk = .int .i64 k ∧ i = .int .i64 0) (fun _ _ => 0)
  case atStart => exact ⟨rfl, rfl⟩
  case round =>
    obtain ⟨rfl, rfl⟩ := hrel
    go_wp2
    go_ret
    exact ⟨rfl, rfl⟩
set_option maxHeartbeats 400000 in
theorem heldTreeS_nil (a : Option Addr) (q : Nat) (k : Int) (w : World) : Calls Tryd.prog 70 #[.slice a 0 q, .int .i64 k] w fun e w' => e = .returned (.int .i64 k) ∧ w' = w := by
  go_enter Tryd.func70, Tryd.ntmps70
  go_wp2
  go_loop [1, 5] (fun kk i => kk = .int .i64 k ∧ i = .int .i64 0) (fun _ _ => 0)
  case atStart => exact ⟨rfl, rfl⟩
  case round =>
    obtain ⟨rfl, rfl⟩ := hrel
    go_wp2
    go_ret
    exact ⟨rfl, rfl⟩

end Go.Proofs.YtfedeljadckjiaaDoor

namespace Go.Proofs.YtfedeljadckjiaaDoor
open Go.RowKit

/-- the kids, marked from k on -/
def marksK (k : Int) (n : Nat) : List TV := (List.range n).map fun (i : Nat) => ⟨(k + i) % 3 == 0, .slice none 0 0, .slice none 0 0, .slice none 0 0, .slice none 0 0⟩
def zeroTV : TV := ⟨false, .slice none 0 0, .slice none 0 0, .slice none 0 0, .slice none 0 0⟩
theorem marksK_length (k : Int) (n : Nat) : (marksK k n).length = n := by simp [marksK]
theorem marksK_succ (k : Int) (n : Nat) : marksK k (n + 1) = marksK k n ++ [⟨(k + n) % 3 == 0, .slice none 0 0, .slice none 0 0, .slice none 0 0, .slice none 0 0⟩] := by simp [marksK, List.range_succ]
def midK (k : Int) (n j : Nat) : List TV := marksK k j ++ List.replicate (n - j) zeroTV
theorem midK_length (k : Int) (n j : Nat) (h : j ≤ n) : (midK k n j).length = n := by simp [midK, marksK_length]; omega
theorem midK_zero (k : Int) (n : Nat) : midK k n 0 = List.replicate n zeroTV := by simp [midK, marksK]
theorem midK_full (k : Int) (n : Nat) : midK k n n = marksK k n := by simp [midK]
theorem midK_at (k : Int) (n j : Nat) (h : j < n) : tvAt (midK k n j) j = zeroTV := by
  have : (midK k n j)[j]? = some zeroTV := by
    rw [midK, List.getElem?_append_right (by rw [marksK_length]; omega), marksK_length, Nat.sub_self, List.getElem?_replicate_of_lt (by omega)]
  simp [tvAt, List.getD, this]
theorem midK_step (k : Int) (n j : Nat) (h : j < n) : (midK k n j).set j ⟨(k + j) % 3 == 0, .slice none 0 0, .slice none 0 0, .slice none 0 0, .slice none 0 0⟩ = midK k n (j + 1) := by
  obtain ⟨m, hm⟩ : ∃ m, n - j = m + 1 := ⟨n - j - 1, by omega⟩
  rw [midK, midK, marksK_succ, hm, show n - (j + 1) = m by omega, List.replicate_succ, List.set_append_right _ _ (by rw [marksK_length]; omega), marksK_length, Nat.sub_self, List.set_cons_zero, List.append_assoc, List.singleton_append]
theorem marksK_at (k : Int) (n i : Nat) (h : i < n) : tvAt (marksK k n) i = ⟨(k + i) % 3 == 0, .slice none 0 0, .slice none 0 0, .slice none 0 0, .slice none 0 0⟩ := by simp [marksK, tvAt, List.getD, h]
/-- one flag of a row of trees is set -/
theorem flatT_flag (l : List TV) (b : Bool) : ∀ i, i < l.length → (flatT l).set (i * 5) (.bool b) = flatT (l.set i ⟨b, (tvAt l i).p, (tvAt l i).c, (tvAt l i).k, (tvAt l i).b⟩) := by
  induction l with
  | nil => intro i h; simp at h
  | cons p l ih =>
    intro i h
    cases i with
    | zero => simp [flatT_cons, tvAt]
    | succ i =>
      have := ih i (by simpa using h)
      rw [flatT_cons, List.set_cons_succ, flatT_cons, show (i + 1) * 5 = i * 5 + 1 + 1 + 1 + 1 + 1 by omega]
      simp only [List.set_cons_succ, this]
      simp [tvAt]

set_option maxRecDepth 100000 in
set_option maxHeartbeats 2000000 in
theorem markTreeS_z (M n : Nat) (k : Int) (w : World) (h : w.ownsRow 0 29 5 (.slice (some ⟨M, 0, none⟩) n n) n (flatT (List.replicate n zeroTV))) (hn : n ≤ 10) (hk0 : 0 ≤ k) (hk1 : k ≤ 4194304) :
    Calls Tryd.prog 67 #[.slice (some ⟨M, 0, none⟩) n n, .int .i64 k] w fun e w' => e = .returned (.int .i64 (k + n)) ∧ w'.ownsRow 0 29 5 (.slice (some ⟨M, 0, none⟩) n n) n (flatT (marksK k n)) ∧ Chg (fun g => g = M) w w' := by
  have OW : Hid _ := h
  clear h
  go_enter Tryd.func67, Tryd.ntmps67
  go_wp2
  go_loopw [1, 5] (fun kk i wr => ∃ j : Nat, j ≤ n ∧ i = .int .i64 j ∧ kk = .int .i64 (k + j) ∧ Hid (wr.ownsRow 0 29 5 (.slice (some ⟨M, 0, none⟩) n n) n (flatT (midK k n j)) ∧ Chg (fun g => g = M) w wr)) (fun _ i _ => n - (intOf i).toNat)
  case atStart => exact ⟨0, Nat.zero_le _, rfl, by simp, by rw [midK_zero]; exact OW.out, Chg.refl _ _⟩
  case round =>
    obtain ⟨j, hj, rfl, rfl, hI⟩ := hrel
    obtain ⟨hown, hch⟩ := hI.out
    clear OW hI
    by_cases hlt : j < n
    · have hml := midK_length k n j hj
      have hat := flatT_at (midK k n j) j (by omega)
      rw [midK_at k n j hlt] at hat
      simp only [zeroTV] at hat
      have e0 := (hown.cellAt (j * 5) (by omega)).trans hat.1
      have f0 := hown.frozenAt (j * 5)
      have st := (hown.stored (j * 5) (.bool ((k + j) % 3 == 0))).1
      rw [flatT_flag _ _ j (by omega), midK_at k n j hlt] at st
      simp only [zeroTV] at st
      rw [midK_step k n j hlt] at st
      have hch2 : Chg (fun g => g = M) w (wr.setCell ⟨M, j * 5, none⟩ (.bool ((k + j) % 3 == 0))) := hch.setAt M _ rfl _
      have c1 := (hown.cellAt (j * 5 + 1) (by omega)).trans hat.2.1
      have c2 := (hown.cellAt (j * 5 + 2) (by omega)).trans hat.2.2.1
      have c3 := (hown.cellAt (j * 5 + 3) (by omega)).trans hat.2.2.2.1
      have c4 := (hown.cellAt (j * 5 + 4) (by omega)).trans hat.2.2.2.2
      have ST : Hid _ := And.intro st hch2
      clear st hch2 hown hch hml hat
      have hb0 : 0 ≤ k + (j : Int) := by omega
      have hb1 : k + (j : Int) ≤ 100000000 := by omega
      go_wp2_with fail
      refine (markPairS_nil none 0 (k + j + 1) _).mono ?_
      rintro e u1 ⟨rfl, hu⟩
      subst hu
      go_wp2_with fail
      refine (markIntS_nil none 0 (k + j + 1) _).mono ?_
      rintro e u1 ⟨rfl, hu⟩
      subst hu
      go_wp2_with fail
      refine (markTreeS_nil none 0 (k + j + 1) _).mono ?_
      rintro e u1 ⟨rfl, hu⟩
      subst hu
      go_wp2_with fail
      refine (markMsgS_nil none 0 (k + j + 1) _).mono ?_
      rintro e u1 ⟨rfl, hu⟩
      subst hu
      go_wp2
      go_roundw
      case rel => exact ⟨j + 1, by omega, by go_num, by go_num, ST.out⟩
      case measure => simp [intOf]; omega
    · have hjl : j = n := by omega
      subst hjl
      go_wp2
      go_ret
      rw [midK_full] at hown
      exact ⟨rfl, hown, hch⟩

set_option maxRecDepth 100000 in
set_option maxHeartbeats 2000000 in
theorem heldTreeS_z (v : Value) (n : Nat) (k : Int) (w : World) (h : Row w v n (flatT (marksK k n))) (hn : n ≤ 10) (hk0 : 0 ≤ k) (hk1 : k ≤ 4194304) :
    Calls Tryd.prog 70 #[v, .int .i64 k] w fun e w' => e = .returned (.int .i64 (k + n)) ∧ w' = w := by
  have h' : Row w v (marksK k n).length (flatT (marksK k n)) := by rw [marksK_length]; exact h
  obtain ⟨a, b, off, cap, rfl, hcap, hmax, ha, q0, q1, q2, q3, q4⟩ := h'.trees
  rw [marksK_length] at *
  unfold maxLen at hmax
  clear h h'
  go_enter Tryd.func70, Tryd.ntmps70
  go_wp2
  go_loop [1, 5] (fun kk i => ∃ j : Nat, j ≤ n ∧ i = .int .i64 j ∧ kk = .int .i64 (k + j)) (fun _ i => n - (intOf i).toNat)
  case atStart => exact ⟨0, Nat.zero_le _, rfl, by simp⟩
  case round =>
    obtain ⟨j, hj, rfl, rfl⟩ := hrel
    by_cases hlt : j < n
    · have hal := ha (by omega)
      subst hal
      have c0 := q0 j hlt
      have c1 := q1 j hlt
      have c2 := q2 j hlt
      have c3 := q3 j hlt
      have c4 := q4 j hlt
      rw [marksK_at k n j hlt] at c0 c1 c2 c3 c4
      simp only at c0 c1 c2 c3 c4
      clear q0 q1 q2 q3 q4
      have hb0 : 0 ≤ k + (j : Int) := by omega
      have hb1 : k + (j : Int) ≤ 100000000 := by omega
      have hbs : (((k + (j : Int)) % 3 == 0) != ((k + (j : Int)) % 3 == 0)) = false := by simp
      go_wp2_with fail
      refine (heldPairS_nil none 0 (k + j + 1) _).mono ?_
      rintro e u1 ⟨rfl, hu⟩
      subst hu
      go_wp2_with fail
      refine (heldIntS_nil none 0 (k + j + 1) _).mono ?_
      rintro e u1 ⟨rfl, hu⟩
      subst hu
      go_wp2_with fail
      refine (heldTreeS_nil none 0 (k + j + 1) _).mono ?_
      rintro e u1 ⟨rfl, hu⟩
      subst hu
      go_wp2_with fail
      refine (heldMsgS_nil none 0 (k + j + 1) _).mono ?_
      rintro e u1 ⟨rfl, hu⟩
      subst hu
      go_wp2
      go_round
      case rel => exact ⟨j + 1, by omega, by go_num, by go_num⟩
      case measure => simp [intOf]; omega
    · have hjl : j = n := by omega
      subst hjl
      go_wp2
      go_ret
      exact ⟨rfl, rfl⟩

end Go.Proofs.YtfedeljadckjiaaDoor

namespace Go.Proofs.YtfedeljadckjiaaDoor
open Go.RowKit

def treeG : Option NodeV → Tr
  | none => ⟨false, [], [], [], []⟩
  | some n => treeV n
def kidsG : Option NodeV → List Int
  | none => []
  | some n => kidsV n
/-- the program's answer, in memory of its own -/
def AnsV (base : Nat) (w : World) (vt vk : Value) : Option NodeV → Prop
  | none => vt = treeZ ∧ vk = .slice none 0 0
  | some n => NodeAt base w vt vk n ∧ okV n
theorem AnsV.below {base : Nat} {w w' : World} {vt vk : Value} {g : Option NodeV} (h : AnsV base w vt vk g) (hb : Below w.heap.size w w') : AnsV base w' vt vk g := by
  cases g with
  | none => exact h
  | some n => exact ⟨h.1.chg (Chg.of_below (F := fun _ => False) hb) (fun _ h => h.elim), h.2⟩
theorem AnsV.chg {F : Nat → Prop} {base : Nat} {w w' : World} {vt vk : Value} {g : Option NodeV} (h : AnsV base w vt vk g) (hc : Chg F w w') (hF : ∀ g, F g → g < base) : AnsV base w' vt vk g := by
  cases g with
  | none => exact h
  | some n => exact ⟨h.1.chg hc hF, h.2⟩
theorem made_trees (n : Nat) : (madeCells #[.bool false, .slice none 0 0, .slice none 0 0, .slice none 0 0, .slice none 0 0] (n * 5)).toList = flatT (List.replicate n zeroTV) := by
  apply List.ext_getElem?
  intro j
  by_cases hj : j < n * 5
  · have hi : j / 5 < (List.replicate n zeroTV).length := by simp; omega
    have hat := flatT_at (List.replicate n zeroTV) (j / 5) hi
    have hz : tvAt (List.replicate n zeroTV) (j / 5) = zeroTV := by simp [tvAt, List.getD, show j / 5 < n by omega]
    rw [hz] at hat
    simp only [zeroTV] at hat
    have hc : (madeCells #[.bool false, .slice none 0 0, .slice none 0 0, .slice none 0 0, .slice none 0 0] (n * 5)).toList[j]? = some ((#[.bool false, .slice none 0 0, .slice none 0 0, .slice none 0 0, .slice none 0 0] : Array Value)[j % 5]!) := by simp [madeCells, hj]
    rw [hc]
    rcases (show j % 5 = 0 ∨ j % 5 = 1 ∨ j % 5 = 2 ∨ j % 5 = 3 ∨ j % 5 = 4 by omega) with h | h | h | h | h
    · rw [h, ← (show j / 5 * 5 = j by omega)]; exact hat.1.symm
    · rw [h, ← (show j / 5 * 5 + 1 = j by omega)]; exact hat.2.1.symm
    · rw [h, ← (show j / 5 * 5 + 2 = j by omega)]; exact hat.2.2.1.symm
    · rw [h, ← (show j / 5 * 5 + 3 = j by omega)]; exact hat.2.2.2.1.symm
    · rw [h, ← (show j / 5 * 5 + 4 = j by omega)]; exact hat.2.2.2.2.symm
  · rw [List.getElem?_eq_none (by simp [madeCells]; omega), List.getElem?_eq_none (by rw [flatT_length]; simp; omega)]
theorem kids_own {w : World} {M n : Nat} (h : w.heap[M]? = some (.cells (madeCells #[.bool false, .slice none 0 0, .slice none 0 0, .slice none 0 0, .slice none 0 0] (n * 5)) 29 (0, 0))) (hn : n ≤ 10) : w.ownsRow M 29 5 (.slice (some ⟨M, 0, none⟩) n n) n (flatT (List.replicate n zeroTV)) := by
  refine ⟨by rw [flatT_length]; simp, .inr ⟨M, n, _, rfl, Nat.le_refl _, h, Nat.le_refl _, by unfold maxLen; omega, by simp [madeCells], ?_⟩⟩
  rw [made_trees, List.take_of_length_le (by rw [flatT_length]; simp)]
theorem rowZ (w : World) : Row w (.slice none 0 0) 0 [] := ⟨none, 0, 0, 0, rfl, Nat.le_refl _, Nat.zero_le _, fun h => absurd h (Nat.lt_irrefl _), fun j u hj => by simp at hj, fun _ => rfl⟩
/-- the answer is that tree, and those numbers -/
theorem AnsV.tree {base : Nat} {w : World} {vt vk : Value} {g : Option NodeV} (h : AnsV base w vt vk g) : (∃ x : TV, vt = x.val ∧ TreeAt 2 w x (treeG g)) ∧ Row w vk (kidsG g).length (flatI (kidsG g)) := by
  have rn := rowZ w
  cases g with
  | none =>
    obtain ⟨rfl, rfl⟩ := h
    exact ⟨⟨⟨false, .slice none 0 0, .slice none 0 0, .slice none 0 0, .slice none 0 0⟩, rfl, TreeAt.mk rfl rn rn rn ⟨[], rfl, rn, fun i hi => absurd hi (Nat.not_lt_zero _)⟩⟩, rn⟩
  | some nv =>
    obtain ⟨h, hok⟩ := h
    cases nv with
    | inl l =>
      obtain ⟨vp, rfl, rfl, o⟩ := h
      exact ⟨⟨⟨true, vp, .slice none 0 0, .slice none 0 0, .slice none 0 0⟩, rfl, TreeAt.mk rfl o.row' rn rn ⟨[], rfl, rn, fun i hi => absurd hi (Nat.not_lt_zero _)⟩⟩, rn⟩
    | inr f =>
      obtain ⟨vc, vb, M, N, rfl, h2, h3, h4, h5, h6, h7, h8⟩ := h
      have ok := kids_own h8 (by have := hok.2.1; omega)
      refine ⟨⟨⟨false, .slice none 0 0, vc, .slice (some ⟨M, 0, none⟩) f.kids.length f.kids.length, vb⟩, rfl, TreeAt.mk rfl rn (Row.of_owns h5) h6.row' ⟨List.replicate f.kids.length zeroTV, by simp [treeG, treeV], ?_, ?_⟩⟩, Row.of_owns h3⟩
      · rw [List.length_replicate]; exact Row.of_owns ok
      · intro i hi
        rw [List.length_replicate] at hi
        have e1 : tvAt (List.replicate f.kids.length zeroTV) i = zeroTV := by simp [tvAt, List.getD, hi]
        have e2 : (treeG (some (.inr f))).kids.getD i noTr = ⟨false, [], [], [], []⟩ := by simp [treeG, treeV, List.getD, hi]
        rw [e1, e2]
        exact TreeAt.mk rfl rn rn rn ⟨[], rfl, rn, fun i hi => absurd hi (Nat.not_lt_zero _)⟩
/-- how many marks the tree takes, and the numbers -/
def mtN : Option NodeV → Int
  | none => 0
  | some (.inl l) => 2 * l.length
  | some (.inr f) => f.cuts.length + f.kids.length + 3 * f.buf.length
def AnsT (base : Nat) (w : World) (vt vk : Value) : Option NodeV → Prop
  | none => vt = treeZ ∧ vk = .slice none 0 0
  | some (.inl l) => ∃ vp, vt = .agg #[.bool true, vp, .slice none 0 0, .slice none 0 0, .slice none 0 0] ∧ vk = .slice none 0 0 ∧ Row w vp l.length (flatP (marksP 1 l.length)) ∧ l.length ≤ 10
  | some (.inr f) => ∃ (vc vb : Value) (M N : Nat), vt = .agg #[.bool false, .slice none 0 0, vc, .slice (some ⟨M, 0, none⟩) f.kids.length f.kids.length, vb] ∧ (f.kids.length ≤ 10 ∧ f.cuts.length ≤ 10 ∧ f.buf.length ≤ 10) ∧ base ≤ N ∧
      OwnI base w vk f.kids ∧ (∀ g, vk.ownBlock = some g → g < N) ∧ OwnI N w vc (marksI 1 f.cuts.length) ∧ OwnE w N 75 3 vb f.buf.length (flatM (marksM (1 + f.cuts.length + f.kids.length) f.buf.length)) ∧ w.ownsRow N 29 5 (.slice (some ⟨M, 0, none⟩) f.kids.length f.kids.length) f.kids.length (flatT (marksK (1 + f.cuts.length) f.kids.length))
def AnsM (w : World) (vt vk : Value) : Option NodeV → Prop
  | none => vt = treeZ ∧ vk = .slice none 0 0
  | some (.inl l) => ∃ vp, vt = .agg #[.bool true, vp, .slice none 0 0, .slice none 0 0, .slice none 0 0] ∧ vk = .slice none 0 0 ∧ Row w vp l.length (flatP (marksP 1 l.length)) ∧ l.length ≤ 10
  | some (.inr f) => ∃ (vc vb vm : Value), vt = .agg #[.bool false, .slice none 0 0, vc, vm, vb] ∧ (f.kids.length ≤ 10 ∧ f.cuts.length ≤ 10 ∧ f.buf.length ≤ 10) ∧
      Row w vk f.kids.length (flatI (marksI (1 + f.cuts.length + f.kids.length + 3 * f.buf.length) f.kids.length)) ∧ Row w vc f.cuts.length (flatI (marksI 1 f.cuts.length)) ∧ Row w vb f.buf.length (flatM (marksM (1 + f.cuts.length + f.kids.length) f.buf.length)) ∧ Row w vm f.kids.length (flatT (marksK (1 + f.cuts.length) f.kids.length))
theorem AnsM.below {w w' : World} {vt vk : Value} {g : Option NodeV} (h : AnsM w vt vk g) (hb : Below w.heap.size w w') : AnsM w' vt vk g := by
  cases g with
  | none => exact h
  | some nv => cases nv with
    | inl l =>
      obtain ⟨vp, h1, h2, h3, h4⟩ := h
      exact ⟨vp, h1, h2, h3.below hb, h4⟩
    | inr f =>
      obtain ⟨vc, vb, vm, h1, h2, h3, h4, h5, h6⟩ := h
      exact ⟨vc, vb, vm, h1, h2, h3.below hb, h4.below hb, h5.below hb, h6.below hb⟩

end Go.Proofs.YtfedeljadckjiaaDoor

namespace Go.Proofs.YtfedeljadckjiaaDoor
open Go.RowKit

/-- a row of messages of its own, or an empty one, is marked -/
theorem markMsgS_e (base : Nat) (v : Value) (l : ML) (k : Int) (w : World) (h : OwnE w base 75 3 v l.length (flatM l)) (hn : l.length ≤ 10) (hk0 : 0 ≤ k) (hk1 : k ≤ 100000) :
    Calls Tryd.prog 68 #[v, .int .i64 k] w fun e w' => e = .returned (.int .i64 (k + 3 * l.length)) ∧ OwnE w' base 75 3 v l.length (flatM (marksM k l.length)) ∧ Chg (fun g => wrB v g) w w' := by
  rcases h with h | ⟨h0, h1, g, rfl⟩
  · obtain ⟨a, cap, hv⟩ := owns_val h
    subst hv
    by_cases hc : 0 < l.length
    · refine (markMsgS_any _ l k w (owns_mono h (Nat.zero_le _)) (by omega) hk0 (by omega)).mono ?_
      rintro e w' ⟨rfl, o, c⟩
      have hb : ∀ g, (Value.slice a l.length cap).ownBlock = some g → wrB (.slice a l.length cap) g := fun g hg => by
        obtain ⟨_, ⟨e, e2⟩ | ⟨g', cap', cur, e, _, _, hle, _⟩⟩ := h
        · omega
        · simp at e
          obtain ⟨rfl, rfl⟩ := e
          simp [Value.ownBlock] at hg
          subst hg
          exact ⟨_, _, rfl, by omega⟩
      refine ⟨rfl, .inl ?_, c.mono (fun g _ hg => hb g hg)⟩
      obtain ⟨hl, h1 | ⟨g, cap', cur, e, hg, hh, hn', hcap, hsz, ht⟩⟩ := o
      · exact ⟨hl, .inl h1⟩
      · exact ⟨hl, .inr ⟨g, cap', cur, e, (h.lt g (by rw [e]; rfl)).1, hh, hn', hcap, hsz, ht⟩⟩
    · have hl : l = [] := List.length_eq_zero_iff.1 (by omega)
      subst hl
      refine (markMsgS_nil a cap k w).mono ?_
      rintro e w' ⟨rfl, rfl⟩
      exact ⟨by simp, .inl h, Chg.refl _ _⟩
  · have hl : l = [] := List.length_eq_zero_iff.1 h0
    subst hl
    refine (markMsgS_nil _ 0 k w).mono ?_
    rintro e w' ⟨rfl, rfl⟩
    exact ⟨by simp, .inr ⟨rfl, rfl, g, rfl⟩, Chg.refl _ _⟩
/-- a row of pairs of its own, or an empty one, is marked -/
theorem markPairS_e (base : Nat) (v : Value) (l : List (Int × Int)) (k : Int) (w : World) (h : OwnE w base 73 2 v l.length (flatP l)) (hn : l.length ≤ 10) (hk0 : 0 ≤ k) (hk1 : k ≤ 100000) :
    Calls Tryd.prog 66 #[v, .int .i64 k] w fun e w' => e = .returned (.int .i64 (k + 2 * l.length)) ∧ OwnE w' base 73 2 v l.length (flatP (marksP k l.length)) ∧ Chg (fun g => wrB v g) w w' := by
  rcases h with h | ⟨h0, h1, g, rfl⟩
  · obtain ⟨a, cap, hv⟩ := owns_val h
    subst hv
    by_cases hc : 0 < l.length
    · refine (markPairS_any _ l k w (owns_mono h (Nat.zero_le _)) (by omega) hk0 (by omega)).mono ?_
      rintro e w' ⟨rfl, o, c⟩
      have hb : ∀ g, (Value.slice a l.length cap).ownBlock = some g → wrB (.slice a l.length cap) g := fun g hg => by
        obtain ⟨_, ⟨e, e2⟩ | ⟨g', cap', cur, e, _, _, hle, _⟩⟩ := h
        · omega
        · simp at e
          obtain ⟨rfl, rfl⟩ := e
          simp [Value.ownBlock] at hg
          subst hg
          exact ⟨_, _, rfl, by omega⟩
      refine ⟨rfl, .inl ?_, c.mono (fun g _ hg => hb g hg)⟩
      obtain ⟨hl, h1 | ⟨g, cap', cur, e, hg, hh, hn', hcap, hsz, ht⟩⟩ := o
      · exact ⟨hl, .inl h1⟩
      · exact ⟨hl, .inr ⟨g, cap', cur, e, (h.lt g (by rw [e]; rfl)).1, hh, hn', hcap, hsz, ht⟩⟩
    · have hl : l = [] := List.length_eq_zero_iff.1 (by omega)
      subst hl
      refine (markPairS_nil a cap k w).mono ?_
      rintro e w' ⟨rfl, rfl⟩
      exact ⟨by simp, .inl h, Chg.refl _ _⟩
  · have hl : l = [] := List.length_eq_zero_iff.1 h0
    subst hl
    refine (markPairS_nil _ 0 k w).mono ?_
    rintro e w' ⟨rfl, rfl⟩
    exact ⟨by simp, .inr ⟨rfl, rfl, g, rfl⟩, Chg.refl _ _⟩
theorem ownB_ne {w : World} {b e s n : Nat} {v : Value} {xs : List Value} (h : w.ownsRow b e s v n xs) {M t : Nat} {c : Array Value} (hM : w.heap[M]? = some (.cells c t (0, 0))) (ht : t ≠ e) {g : Nat} (hg : v.ownBlock = some g) : ¬ g = M := by
  rintro rfl
  obtain ⟨_, c1, e1⟩ := owns_lt h hg
  rw [e1] at hM
  simp at hM
  exact ht hM.2.symm
theorem wrB_ty {w : World} {b e s n : Nat} {v : Value} {xs : List Value} (h : OwnE w b e s v n xs) {g : Nat} (hg : wrB v g) : ∃ cur, w.heap[g]? = some (.cells cur e (0, 0)) := by
  obtain ⟨k, cap, rfl, hc⟩ := hg
  rcases h with h | ⟨_, _, g', h'⟩
  · exact (owns_lt h (g := g) rfl).2
  · simp at h'; omega

/-- all its blocks lie below hi -/
def AnsB (hi : Nat) (vt vk : Value) : Option NodeV → Prop
  | none => True
  | some (.inl _) => ∀ vp, vt = .agg #[.bool true, vp, .slice none 0 0, .slice none 0 0, .slice none 0 0] → ∀ g, wrB vp g → g < hi
  | some (.inr f) => ∀ vc vb M, vt = .agg #[.bool false, .slice none 0 0, vc, .slice (some ⟨M, 0, none⟩) f.kids.length f.kids.length, vb] → (∀ g, vc.ownBlock = some g → g < hi) ∧ (∀ g, wrB vb g → g < hi) ∧ M < hi ∧ (∀ g, vk.ownBlock = some g → g < hi)
theorem AnsV.hi {base : Nat} {w : World} {vt vk : Value} {g : Option NodeV} (h : AnsV base w vt vk g) : AnsB w.heap.size vt vk g := by
  cases g with
  | none => trivial
  | some nv =>
    obtain ⟨h, _⟩ := h
    cases nv with
    | inl l =>
      obtain ⟨vp, rfl, rfl, o⟩ := h
      intro vp' e g hg
      simp at e
      subst e
      exact (o.lt g hg).2
    | inr f =>
      obtain ⟨vc, vb, M, N, rfl, h2, h3, h4, h5, h6, h7, h8⟩ := h
      intro vc' vb' M' e
      simp at e
      obtain ⟨rfl, rfl, rfl⟩ := e
      exact ⟨fun g hg => (World.ownsRow.lt h5 g hg).2, fun g hg => (h6.lt g hg).2, (Array.getElem?_eq_some_iff.1 h8).1, fun g hg => (World.ownsRow.lt h3 g hg).2⟩

set_option maxRecDepth 100000 in
set_option maxHeartbeats 2000000 in
theorem markTree_ans (base hi : Nat) (vt vk : Value) (g : Option NodeV) (w : World) (h : AnsV base w vt vk g) (hB : AnsB hi vt vk g) :
    Calls Tryd.prog 32 #[vt, .int .i64 1] w fun e w' => e = .returned (.int .i64 (1 + mtN g)) ∧ AnsT base w' vt vk g ∧ Chg (fun g => base ≤ g ∧ g < hi) w w' := by
  cases g with
  | none =>
    obtain ⟨rfl, rfl⟩ := h
    have hz : treeZ = .agg #[.bool false, .slice none 0 0, .slice none 0 0, .slice none 0 0, .slice none 0 0] := rfl
    rw [hz]
    go_enter Tryd.func32, Tryd.ntmps32
    go_wp2_with fail
    refine (markPairS_nil none 0 1 _).mono ?_
    rintro e u1 ⟨rfl, hu⟩
    subst hu
    go_wp2_with fail
    refine (markIntS_nil none 0 1 _).mono ?_
    rintro e u1 ⟨rfl, hu⟩
    subst hu
    go_wp2_with fail
    refine (markTreeS_nil none 0 1 _).mono ?_
    rintro e u1 ⟨rfl, hu⟩
    subst hu
    go_wp2_with fail
    refine (markMsgS_nil none 0 1 _).mono ?_
    rintro e u1 ⟨rfl, hu⟩
    subst hu
    go_wp2
    go_ret
    exact ⟨by simp [mtN], ⟨rfl, rfl⟩, Chg.of_below (bel_new _ _)⟩
  | some nv =>
    obtain ⟨h, hok⟩ := h
    cases nv with
    | inl l =>
      obtain ⟨vp, rfl, rfl, o⟩ := h
      obtain ⟨ap, qp, hv⟩ := o.slice
      subst hv
      have hl4 : l.length ≤ 4 := hok
      have O : Hid (OwnE w base 73 2 (.slice ap l.length qp) l.length (flatP l)) := o
      have HBB : Hid (∀ vp, (Value.agg #[.bool true, .slice ap l.length qp, .slice none 0 0, .slice none 0 0, .slice none 0 0]) = .agg #[.bool true, vp, .slice none 0 0, .slice none 0 0, .slice none 0 0] → ∀ g, wrB vp g → g < hi) := hB
      clear hB
      have Z := heap_alloc_new w (.cells #[.bool true, .slice ap l.length qp, .slice none 0 0, .slice none 0 0, .slice none 0 0] 29)
      have B := bel_new w (.cells #[.bool true, .slice ap l.length qp, .slice none 0 0, .slice none 0 0, .slice none 0 0] 29)
      clear o hok
      go_enter Tryd.func32, Tryd.ntmps32
      go_wp2_with fail
      generalize w.alloc (.cells #[.bool true, .slice ap l.length qp, .slice none 0 0, .slice none 0 0, .slice none 0 0] 29) = W at *
      refine (markPairS_e base _ l 1 W (O.out.below B) (by omega) (by decide) (by decide)).mono ?_
      rintro e u1 ⟨rfl, r1, c1⟩
      have z1 := row_chg Z c1 (fun e => by have := (O.out.lt _ e).2; omega)
      have e2 : u1.cell? ⟨w.heap.size, 2, none⟩ = some (.slice none 0 0) := by rw [cell_of_cells z1]; rfl
      have e3 : u1.cell? ⟨w.heap.size, 3, none⟩ = some (.slice none 0 0) := by rw [cell_of_cells z1]; rfl
      have e4 : u1.cell? ⟨w.heap.size, 4, none⟩ = some (.slice none 0 0) := by rw [cell_of_cells z1]; rfl
      have FIN : Hid (Row u1 (.slice ap l.length qp) l.length (flatP (marksP 1 l.length)) ∧ Chg (fun g => base ≤ g ∧ g < hi) w u1) := ⟨r1.row', (Chg.of_below B).trans c1 (fun g _ hg => ⟨(O.out.lt g hg).1, HBB.out _ rfl g hg⟩)⟩
      clear r1 c1 z1 Z B
      go_wp2_with fail
      refine (markIntS_nil none 0 _ _).mono ?_
      rintro e u2 ⟨rfl, hu⟩
      subst hu
      go_wp2_with fail
      refine (markTreeS_nil none 0 _ _).mono ?_
      rintro e u2 ⟨rfl, hu⟩
      subst hu
      go_wp2_with fail
      refine (markMsgS_nil none 0 _ _).mono ?_
      rintro e u2 ⟨rfl, hu⟩
      subst hu
      go_wp2
      go_ret
      exact ⟨rfl, ⟨_, rfl, rfl, FIN.out.1, by omega⟩, FIN.out.2⟩
    | inr f =>
      obtain ⟨vc, vb, M, N, rfl, h2, h3, h4, h5, h6, h7, h8⟩ := h
      obtain ⟨hk1, hk4, hcu, hbu⟩ := hok
      obtain ⟨ac, qc, hv⟩ := owns_val h5
      subst hv
      obtain ⟨am, qm, hv⟩ := h6.slice
      subst hv
      have ok := kids_own h8 (by omega)
      have HBB : Hid _ := hB _ _ _ rfl
      clear hB
      have Z := heap_alloc_new w (.cells #[.bool false, .slice none 0 0, .slice ac f.cuts.length qc, .slice (some ⟨M, 0, none⟩) f.kids.length f.kids.length, .slice am f.buf.length qm] 29)
      have B := bel_new w (.cells #[.bool false, .slice none 0 0, .slice ac f.cuts.length qc, .slice (some ⟨M, 0, none⟩) f.kids.length f.kids.length, .slice am f.buf.length qm] 29)
      have O : Hid _ := And.intro h3 (And.intro h4 (And.intro h5 (And.intro h6 (And.intro h7 (And.intro h8 ok)))))
      have hc3 : f.cuts.length ≤ 3 := by omega
      have HCU : Hid (f.cuts.length + 1 = f.kids.length) := hcu
      clear h3 h4 h5 h6 h7 h8 ok hcu
      go_enter Tryd.func32, Tryd.ntmps32
      go_wp2_with fail
      generalize w.alloc (.cells #[.bool false, .slice none 0 0, .slice ac f.cuts.length qc, .slice (some ⟨M, 0, none⟩) f.kids.length f.kids.length, .slice am f.buf.length qm] 29) = W at *
      refine (markPairS_nil none 0 1 W).mono ?_
      rintro e u0 ⟨rfl, hu⟩
      rw [hu]
      clear hu
      obtain ⟨h3, h4, h5, h6, h7, h8, ok⟩ := O.out
      have o5 : W.ownsRow N 3 1 (.slice ac f.cuts.length qc) f.cuts.length (flatI f.cuts) := owns_below h5 B
      have x2 : W.cell? ⟨w.heap.size, 2, none⟩ = some (.slice ac f.cuts.length qc) := by rw [cell_of_cells Z]; rfl
      have HB : Hid _ := And.intro Z B
      clear Z B h3 h4 h5 h6 h7 h8 ok
      go_wp2_with fail
      refine (markIntS_s _ f.cuts 1 W (owns_mono o5 (Nat.zero_le _)) (by omega) (by decide) (by decide)).mono ?_
      rintro e u1 ⟨rfl, q5, c1⟩
      obtain ⟨h3, h4, h5, h6, h7, h8, ok⟩ := O.out
      obtain ⟨Z, B⟩ := HB.out
      have lt5 : ∀ g, (Value.slice ac f.cuts.length qc).ownBlock = some g → N ≤ g ∧ g < w.heap.size := fun g hg => World.ownsRow.lt h5 g hg
      have z1 := row_chg Z c1 (fun e => by have := (lt5 _ e).2; omega)
      have k1 : OwnI base u1 vk f.kids := owns_chg (owns_below h3 B) c1 (fun g hg e => by have := h4 g hg; have := (lt5 g e).1; omega)
      have m1 := (h6.below B).chg c1 (fun g hg e => by
        obtain ⟨cur, e1⟩ := wrB_ty h6 hg
        obtain ⟨_, c2, e2⟩ := owns_lt h5 e
        rw [e1] at e2; simp at e2)
      have t1 := owns_chg (owns_below ok B) c1 (fun g hg e => by
        obtain ⟨_, c3, e3⟩ := owns_lt ok hg
        obtain ⟨_, c2, e2⟩ := owns_lt h5 e
        rw [e3] at e2; simp at e2)
      have q5' : u1.ownsRow N 3 1 (.slice ac f.cuts.length qc) f.cuts.length (flatI (marksI 1 f.cuts.length)) := by
        obtain ⟨hl, h1 | ⟨g, cap', cur, e, hg, hh, hn', hcap, hsz, ht⟩⟩ := q5
        · exact ⟨hl, .inl h1⟩
        · exact ⟨hl, .inr ⟨g, cap', cur, e, (lt5 g (by rw [e]; rfl)).1, hh, hn', hcap, hsz, ht⟩⟩
      have C1 : Chg (fun g => base ≤ g ∧ g < hi) w u1 := (Chg.of_below B).trans c1 (fun g _ hg => ⟨Nat.le_trans h2 (lt5 g hg).1, HBB.out.1 g hg⟩)
      have hM : u1.heap[M]? = w.heap[M]? := by
        have hMw : M < w.heap.size := (Array.getElem?_eq_some_iff.1 h8).1
        rw [c1.block M (by have := B.size; omega) (fun e => ownB_ne h5 h8 (by decide) e rfl), B.block M hMw]
      have x3 : u1.cell? ⟨w.heap.size, 3, none⟩ = some (.slice (some ⟨M, 0, none⟩) f.kids.length f.kids.length) := by rw [cell_of_cells z1]; rfl
      have J : Hid _ := And.intro z1 (And.intro k1 (And.intro m1 (And.intro t1 (And.intro q5' C1))))
      clear h3 h4 h5 h6 h8 ok Z B z1 k1 m1 t1 q5' C1 c1 q5 lt5 o5 x2 hM
      have hk9 : (0 : Int) ≤ 1 + f.cuts.length := by omega
      have hk8 : (1 : Int) + f.cuts.length ≤ 100000 := by omega
      go_wp2_with fail
      refine (markTreeS_z M f.kids.length (1 + f.cuts.length) u1 (owns_mono J.out.2.2.2.1 (Nat.zero_le _)) (by omega) hk9 (by omega)).mono ?_
      rintro e u2 ⟨rfl, t2, c2⟩
      obtain ⟨z1, k1, m1, t1, q5, C1⟩ := J.out
      have MM : ∃ cur, u1.heap[M]? = some (.cells cur 29 (0, 0)) := (owns_lt t1 (g := M) rfl).2
      obtain ⟨curM, hMM⟩ := MM
      have Mlt : N ≤ M ∧ M < w.heap.size := ⟨h7, (Array.getElem?_eq_some_iff.1 O.out.2.2.2.2.2.1).1⟩
      have z2 := row_chg z1 c2 (by omega)
      have k2 : OwnI base u2 vk f.kids := owns_chg k1 c2 (fun g hg e => ownB_ne k1 hMM (by decide) hg e)
      have m2 := m1.chg c2 (fun g hg e => by
        obtain ⟨cur, e1⟩ := wrB_ty m1 hg
        subst e
        rw [hMM] at e1; simp at e1)
      have q2 : OwnI N u2 (.slice ac f.cuts.length qc) (marksI 1 f.cuts.length) := by
        have := owns_chg q5 c2 (fun g hg e => ownB_ne q5 hMM (by decide) hg e)
        unfold OwnI
        rw [marksI_length]
        exact this
      have t2' : u2.ownsRow N 29 5 (.slice (some ⟨M, 0, none⟩) f.kids.length f.kids.length) f.kids.length (flatT (marksK (1 + f.cuts.length) f.kids.length)) := by
        obtain ⟨hl, h1 | ⟨g, cap', cur, e, hg, hh, hn', hcap, hsz, ht⟩⟩ := t2
        · exact ⟨hl, .inl h1⟩
        · have hgM : g = M := by simp at e; exact e.1.symm
          exact ⟨hl, .inr ⟨g, cap', cur, e, by omega, hh, hn', hcap, hsz, ht⟩⟩
      have C2 : Chg (fun g => base ≤ g ∧ g < hi) w u2 := C1.trans c2 (fun g _ hg => ⟨by omega, by rw [hg]; exact HBB.out.2.2.1⟩)
      have x4 : u2.cell? ⟨w.heap.size, 4, none⟩ = some (.slice am f.buf.length qm) := by rw [cell_of_cells z2]; rfl
      have L : Hid _ := And.intro k2 (And.intro m2 (And.intro q2 (And.intro t2' C2)))
      clear z1 k1 m1 t1 q5 C1 hMM z2 k2 m2 q2 t2 t2' C2 c2 x3 J curM
      have hk7 : (0 : Int) ≤ 1 + f.cuts.length + f.kids.length := by omega
      have hk6 : (1 : Int) + f.cuts.length + f.kids.length ≤ 100000 := by omega
      go_wp2_with fail
      refine (markMsgS_e N _ f.buf (1 + f.cuts.length + f.kids.length) u2 L.out.2.1 (by omega) hk7 hk6).mono ?_
      rintro e u3 ⟨rfl, m3, c3⟩
      obtain ⟨k2, m2, q2, t2, C2⟩ := L.out
      have FIN : Hid (AnsT base u3 (.agg #[.bool false, .slice none 0 0, .slice ac f.cuts.length qc, .slice (some ⟨M, 0, none⟩) f.kids.length f.kids.length, .slice am f.buf.length qm]) vk (some (.inr f)) ∧ Chg (fun g => base ≤ g ∧ g < hi) w u3) := by
        refine ⟨⟨_, _, M, N, rfl, ⟨by omega, by omega, by omega⟩, h2, ?_, O.out.2.1, ?_, m3, ?_⟩, C2.trans c3 (fun g _ hg => ⟨by have := (m2.lt g hg).1; omega, HBB.out.2.1 g hg⟩)⟩
        · exact owns_chg k2 c3 (fun g hg e => by
            obtain ⟨cur, e1⟩ := wrB_ty m2 e
            obtain ⟨_, c2, e2⟩ := owns_lt k2 hg
            rw [e1] at e2; simp at e2)
        · exact owns_chg q2 c3 (fun g hg e => by
            obtain ⟨cur, e1⟩ := wrB_ty m2 e
            obtain ⟨_, c2, e2⟩ := owns_lt q2 hg
            rw [e1] at e2; simp at e2)
        · exact owns_chg t2 c3 (fun g hg e => by
            obtain ⟨cur, e1⟩ := wrB_ty m2 e
            obtain ⟨_, c2, e2⟩ := owns_lt t2 hg
            rw [e1] at e2; simp at e2)
      clear k2 m2 q2 t2 C2 m3 c3 L x4
      go_wp2
      go_ret
      refine ⟨ret_int ?_, FIN.out⟩
      simp only [mtN]
      omega

end Go.Proofs.YtfedeljadckjiaaDoor

namespace Go.Proofs.YtfedeljadckjiaaDoor
open Go.RowKit

def mkN : Option NodeV → Int
  | none => 0
  | some (.inl _) => 0
  | some (.inr f) => f.kids.length
theorem mtN_in {base : Nat} {w : World} {vt vk : Value} {g : Option NodeV} (h : AnsT base w vt vk g) : 0 ≤ mtN g ∧ mtN g ≤ 100 ∧ 0 ≤ mkN g ∧ mkN g ≤ 10 := by
  cases g with
  | none => simp [mtN, mkN]
  | some nv => cases nv with
    | inl l => obtain ⟨vp, h1, h2, h3, h4⟩ := h; simp only [mtN, mkN]; omega
    | inr f => obtain ⟨vc, vb, M, N, h1, ⟨a, b, c⟩, _⟩ := h; simp only [mtN, mkN]; omega

theorem markIntS_ans (base hi : Nat) (vt vk : Value) (g : Option NodeV) (w : World) (h : AnsT base w vt vk g) (hB : AnsB hi vt vk g) :
    Calls Tryd.prog 33 #[vk, .int .i64 (1 + mtN g)] w fun e w' => e = .returned (.int .i64 (1 + mtN g + mkN g)) ∧ AnsM w' vt vk g ∧ Chg (fun g => base ≤ g ∧ g < hi) w w' := by
  have hin := mtN_in h
  cases g with
  | none =>
    obtain ⟨rfl, rfl⟩ := h
    refine (markIntS_nil none 0 _ w).mono ?_
    rintro e w' ⟨rfl, rfl⟩
    exact ⟨by simp [mkN], ⟨rfl, rfl⟩, Chg.refl _ _⟩
  | some nv => cases nv with
    | inl l =>
      obtain ⟨vp, rfl, rfl, h3, h4⟩ := h
      refine (markIntS_nil none 0 _ w).mono ?_
      rintro e w' ⟨rfl, rfl⟩
      exact ⟨by simp [mkN], ⟨vp, rfl, rfl, h3, h4⟩, Chg.refl _ _⟩
    | inr f =>
      obtain ⟨vc, vb, M, N, rfl, h2, h3, h4, h5, h6, h7, h8⟩ := h
      refine (markIntS_s vk f.kids _ w (owns_mono h4 (Nat.zero_le _)) (by omega) (by omega) (by omega)).mono ?_
      rintro e w' ⟨rfl, o, c⟩
      refine ⟨rfl, ⟨vc, vb, _, rfl, h2, ?_, ?_, ?_, ?_⟩, c.mono (fun g _ hg => ⟨(World.ownsRow.lt h4 g hg).1, (hB _ _ _ rfl).2.2.2 g hg⟩)⟩
      · have e : (1 : Int) + mtN (some (.inr f)) = 1 + f.cuts.length + f.kids.length + 3 * f.buf.length := by simp only [mtN]; omega
        rw [← e]
        exact Row.of_owns o
      · have := Row.of_owns (owns_chg h6 c (fun g hg e => by have := (World.ownsRow.lt h6 g hg).1; have := h5 g e; omega))
        rw [marksI_length] at this
        exact this
      · exact (h7.chg c (fun g hg e => by have := (h7.lt g hg).1; have := h5 g e; omega)).row'
      · exact Row.of_owns (owns_chg h8 c (fun g hg e => by have := (h8.lt g hg).1; have := h5 g e; omega))

theorem heldIntS_ans (vt vk : Value) (g : Option NodeV) (w : World) (h : AnsM w vt vk g) :
    Calls Tryd.prog 37 #[vk, .int .i64 (1 + mtN g)] w fun e w' => e = .returned (.int .i64 (1 + mtN g + mkN g)) ∧ Below w.heap.size w w' := by
  cases g with
  | none =>
    obtain ⟨rfl, rfl⟩ := h
    refine (heldIntS_nil none 0 _ w).mono ?_
    rintro e w' ⟨rfl, rfl⟩
    exact ⟨by simp [mkN], Below.refl _ _⟩
  | some nv => cases nv with
    | inl l =>
      obtain ⟨vp, rfl, rfl, h3, h4⟩ := h
      refine (heldIntS_nil none 0 _ w).mono ?_
      rintro e w' ⟨rfl, rfl⟩
      exact ⟨by simp [mkN], Below.refl _ _⟩
    | inr f =>
      obtain ⟨vc, vb, vm, rfl, ⟨a1, a2, a3⟩, h3, h4, h5, h6⟩ := h
      have e : (1 : Int) + mtN (some (.inr f)) = 1 + f.cuts.length + f.kids.length + 3 * f.buf.length := by simp only [mtN]; omega
      rw [← e] at h3
      refine (heldIntS_s vk f.kids.length _ w h3 (by omega) (by simp only [mtN]; omega) (by simp only [mtN]; omega)).mono ?_
      rintro e w' ⟨rfl, rfl⟩
      exact ⟨rfl, Below.refl _ _⟩

set_option maxRecDepth 100000 in
set_option maxHeartbeats 2000000 in
theorem heldTree_ans (vt vk : Value) (g : Option NodeV) (w : World) (h : AnsM w vt vk g) :
    Calls Tryd.prog 36 #[vt, .int .i64 1] w fun e w' => e = .returned (.int .i64 (1 + mtN g)) ∧ Below w.heap.size w w' := by
  cases g with
  | none =>
    obtain ⟨rfl, rfl⟩ := h
    have hz : treeZ = .agg #[.bool false, .slice none 0 0, .slice none 0 0, .slice none 0 0, .slice none 0 0] := rfl
    rw [hz]
    go_enter Tryd.func36, Tryd.ntmps36
    go_wp2_with fail
    refine (heldPairS_nil none 0 1 _).mono ?_
    rintro e u1 ⟨rfl, hu⟩
    subst hu
    go_wp2_with fail
    refine (heldIntS_nil none 0 1 _).mono ?_
    rintro e u1 ⟨rfl, hu⟩
    subst hu
    go_wp2_with fail
    refine (heldTreeS_nil none 0 1 _).mono ?_
    rintro e u1 ⟨rfl, hu⟩
    subst hu
    go_wp2_with fail
    refine (heldMsgS_nil none 0 1 _).mono ?_
    rintro e u1 ⟨rfl, hu⟩
    subst hu
    go_wp2
    go_ret
    exact ⟨by simp [mtN], bel_new _ _⟩
  | some nv => cases nv with
    | inl l =>
      obtain ⟨vp, rfl, rfl, h3, h4⟩ := h
      obtain ⟨ap, qp, hv, _⟩ := h3.len
      subst hv
      have R : Hid _ := h3.below (bel_new w (.cells #[.bool true, .slice ap l.length qp, .slice none 0 0, .slice none 0 0, .slice none 0 0] 29))
      clear h3
      have hk : ¬ (1 : Int) + 2 * l.length < 0 := by omega
      go_enter Tryd.func36, Tryd.ntmps36
      go_wp2_with fail
      refine (heldPairS_any _ l.length 1 _ R.out (by omega) (by decide) (by decide)).mono ?_
      rintro e u1 ⟨rfl, hu⟩
      subst hu
      go_wp2_with fail
      refine (heldIntS_nil none 0 _ _).mono ?_
      rintro e u1 ⟨rfl, hu⟩
      subst hu
      go_wp2_with fail
      refine (heldTreeS_nil none 0 _ _).mono ?_
      rintro e u1 ⟨rfl, hu⟩
      subst hu
      go_wp2_with fail
      refine (heldMsgS_nil none 0 _ _).mono ?_
      rintro e u1 ⟨rfl, hu⟩
      subst hu
      go_wp2
      go_ret
      exact ⟨rfl, bel_new _ _⟩
    | inr f =>
      obtain ⟨vc, vb, vm, rfl, ⟨a1, a2, a3⟩, h3, h4, h5, h6⟩ := h
      obtain ⟨ac, qc, hv, _⟩ := h4.len
      subst hv
      obtain ⟨ab, qb, hv, _⟩ := h5.len
      subst hv
      obtain ⟨am, qm, hv, _⟩ := h6.len
      subst hv
      have B := bel_new w (.cells #[.bool false, .slice none 0 0, .slice ac f.cuts.length qc, .slice am f.kids.length qm, .slice ab f.buf.length qb] 29)
      have R : Hid _ := And.intro (h4.below B) (And.intro (h6.below B) (h5.below B))
      clear h3 h4 h5 h6 B
      have hk1 : ¬ (1 : Int) + f.cuts.length < 0 := by omega
      have hk2 : ¬ (1 : Int) + f.cuts.length + f.kids.length < 0 := by omega
      have hk3 : ¬ (1 : Int) + f.cuts.length + f.kids.length + 3 * f.buf.length < 0 := by omega
      go_enter Tryd.func36, Tryd.ntmps36
      go_wp2_with fail
      refine (heldPairS_nil none 0 1 _).mono ?_
      rintro e u1 ⟨rfl, hu⟩
      subst hu
      go_wp2_with fail
      refine (heldIntS_s _ f.cuts.length 1 _ R.out.1 (by omega) (by decide) (by decide)).mono ?_
      rintro e u1 ⟨rfl, hu⟩
      subst hu
      go_wp2_with fail
      refine (heldTreeS_z _ f.kids.length (1 + f.cuts.length) _ R.out.2.1 (by omega) (by omega) (by omega)).mono ?_
      rintro e u1 ⟨rfl, hu⟩
      subst hu
      go_wp2_with fail
      refine (heldMsgS_any _ f.buf.length (1 + f.cuts.length + f.kids.length) _ R.out.2.2 (by omega) (by omega) (by omega)).mono ?_
      rintro e u1 ⟨rfl, hu⟩
      subst hu
      go_wp2
      go_ret
      refine ⟨ret_int ?_, bel_new _ _⟩
      simp only [mtN]
      omega

end Go.Proofs.YtfedeljadckjiaaDoor

namespace Go.Proofs.YtfedeljadckjiaaDoor
open Go.RowKit

def filledB (l : List Int) (k : Nat) : List Value := flatB (l.take k) ++ List.replicate (l.length - k) (.int .u8 0)
theorem madeCells_allB (zs : Array Value) (z : Value) (h0 : 0 < zs.size) (h : ∀ i, i < zs.size → zs[i]! = z) (n : Nat) : (madeCells zs n).toList = List.replicate n z := by
  apply List.ext_getElem?
  intro j
  by_cases hj : j < n
  · simp [madeCells, hj]
    exact h _ (Nat.mod_lt _ h0)
  · simp [madeCells, hj]
theorem filledB_full (l : List Int) : filledB l l.length = flatB l := by simp [filledB]
theorem filledB_zero (l : List Int) (k : Nat) (hk : k < l.length) : (filledB l k)[k]? = some (.int .u8 0) := by
  have hl : (flatB (l.take k)).length = k := by rw [flatB_length]; simp; omega
  rw [filledB, List.getElem?_append_right (by omega), List.getElem?_replicate_of_lt (by omega)]
theorem filledB_step (l : List Int) (k : Nat) (hk : k < l.length) : (filledB l k).set k (.int .u8 (byOf l k)) = filledB l (k + 1) := by
  have hl : (flatB (l.take k)).length = k := by rw [flatB_length]; simp; omega
  obtain ⟨m, hm⟩ : ∃ m, l.length - k = m + 1 := ⟨l.length - k - 1, by omega⟩
  have hm2 : l.length - (k + 1) = m := by omega
  have e : byOf l k = l[k] := by simp [byOf, List.getD, hk]
  rw [filledB, filledB, List.take_succ_eq_append_getElem hk, flatB_append, hm, hm2, List.replicate_succ]
  rw [List.set_append_right _ _ (by omega), hl, Nat.sub_self, List.set_cons_zero, e]
  simp [flatB]

set_option maxHeartbeats 1000000 in
theorem toByteS_any (v : Value) (l : List Int) (w : World) (hr : Row w v l.length (flatB l)) (hn : l.length ≤ 1048576) :
    Calls Tryd.prog 25 #[v] w fun e w' => ∃ v', e = .returned v' ∧ w'.ownsRow w.heap.size 5 1 v' l.length (flatB l) ∧ Below w.heap.size w w' := by
  obtain ⟨a, b, off, cap, rfl, hcap, hmax, ha, hk⟩ := hr.bytes
  obtain ⟨i0, hi, hz0, hz1, hz2⟩ := info_parts Tryd.infoByte
  unfold maxLen at hmax
  go_enter Tryd.func25, Tryd.ntmps25
  go_wp2_with (at_make; refine wpList_make_full _ rfl _ _ 22 rfl w.heap.size 5 i0 _ 1 Tryd.underlying22 hi hz0 hz1 .i64 .i64 _ _ l.length rfl rfl rfl rfl ?c1 ?c2 ?c3 ?_)
  case c1 => rw [hz2]; omega
  case c2 => unfold maxLen; omega
  case c3 => exact Nat.le_refl _
  intro w0 hown0 hgrow0
  have hb0 : Below w.heap.size w w0 := (Below.refl _ _).grown hgrow0 (Nat.le_refl _) (fun k hk => by cases hk)
  clear hgrow0
  go_wp2
  go_loopw [4] (fun i wr => ∃ k : Nat, k ≤ l.length ∧ i = .int .i64 k ∧ wr.ownsRow w.heap.size 5 1 (.slice (some ⟨w.heap.size, 0, none⟩) l.length l.length) l.length (filledB l k) ∧ Below w.heap.size w wr)
    (fun i _ => l.length - (intOf i).toNat)
  case atStart => exact ⟨0, Nat.zero_le _, rfl, by rw [madeCells_allB _ (.int .u8 0) (by decide) (fun i hi => by match i, hi with | 0, _ => rfl)] at hown0; simpa [filledB, flatB] using hown0, hb0⟩
  case round =>
    obtain ⟨k, hkl, rfl, hown, hb⟩ := hrel
    clear hown0 hb0
    by_cases hlt : k < l.length
    · have hal := ha (by omega)
      subst hal
      have c0 := hk k hlt
      have hbl := cell_lt c0
      have d0 : wr.cell? ⟨b, off + k, none⟩ = some (.int .u8 (byOf l k)) := (hb.cell (by exact hbl)).trans c0
      clear hk c0 ha
      have e0 := (hown.cellAt k (by omega)).trans (filledB_zero l k hlt)
      have f0 := hown.frozenAt k
      have st := (hown.stored k (.int .u8 (byOf l k))).1
      rw [filledB_step l k hlt] at st
      have ST : Hid ((wr.setCell ⟨w.heap.size, k, none⟩ (.int .u8 (byOf l k))).ownsRow w.heap.size 5 1 (.slice (some ⟨w.heap.size, 0, none⟩) l.length l.length) l.length (filledB l (k + 1))) := st
      clear st hown
      go_wp2
      go_roundw
      case rel => exact ⟨k + 1, by omega, by go_num, ST.out, hb.setCell (Nat.le_refl _) _⟩
      case measure => simp [intOf]; omega
    · go_wp2
      go_ret
      have hkk : k = l.length := by omega
      subst hkk
      rw [filledB_full] at hown
      exact ⟨_, rfl, hown, hb⟩

end Go.Proofs.YtfedeljadckjiaaDoor

namespace Go.Proofs.YtfedeljadckjiaaDoor
open Go.RowKit

/-- what is asked of the model's GetNode -/
def SpecGets : Prop := ∀ (v : Value) (l : List Int) (u : World), Row u v l.length (flatB l) → inByte l → l.length ≤ 1099511627776 →
  Calls Tryd.prog 17 #[v] u fun e w' => (∃ (x : TV) (vk : Value), e = .returned (.tuple #[x.val, vk, .bool (getNodeF l).isSome]) ∧ TreeAt 2 w' x (treeG (getNodeF l)) ∧ Row w' vk (kidsG (getNodeF l)).length (flatI (kidsG (getNodeF l)))) ∧ Below u.heap.size u w'
theorem GetNodePost.split {base : Nat} {g : Option NodeV} {e : Ending} {w' : World} (h : GetNodePost base g e w') (hok : ∀ n, g = some n → okV n) : ∃ (vt vk : Value), e = .returned (.tuple #[vt, vk, .bool g.isSome]) ∧ AnsV base w' vt vk g := by
  cases g with
  | some n =>
    obtain ⟨vt, vk, h1, h2⟩ := h
    exact ⟨vt, vk, h1, h2, hok n rfl⟩
  | none => exact ⟨_, _, h, rfl, rfl⟩

theorem AnsV.tree' {base : Nat} {w : World} {x : TV} {vk : Value} {g : Option NodeV} (h : AnsV base w x.val vk g) : TreeAt 2 w x (treeG g) ∧ Row w vk (kidsG g).length (flatI (kidsG g)) := by
  obtain ⟨⟨x', e, t⟩, k⟩ := h.tree
  have : x = x' := by
    obtain ⟨a1, a2, a3, a4, a5⟩ := x
    obtain ⟨b1, b2, b3, b4, b5⟩ := x'
    simp [TV.val] at e
    obtain ⟨rfl, rfl, rfl, rfl, rfl⟩ := e
    rfl
  subst this
  exact ⟨t, k⟩

set_option maxRecDepth 100000 in
set_option maxHeartbeats 4000000 in
theorem fnExactGetNode_of (SPEC : SpecGets) (ea : Addr) (v : Value) (l : List Int) (w : World) (h : Row w v l.length (flatB l)) (hl : inByte l) (he : ErrIs ea w) :
    Calls Tryd.prog 7 #[v] w fun e w' => e = .returned (.bool true) ∧ Below w.heap.size w w' := by
  obtain ⟨a, q, hv, hq⟩ := h.len
  subst hv
  unfold maxLen at hq
  have RA : Hid (∀ u, Below w.heap.size w u → Row u (.slice a l.length q) l.length (flatB l) ∧ ErrIs ea u) := fun u hu => ⟨h.below hu, he.below hu⟩
  clear h he
  by_cases hbig : (1048576 : Int) < l.length
  · go_enter Tryd.func7, Tryd.ntmps7
    go_wp2
    go_ret
    exact ⟨rfl, Below.refl _ _⟩
  have HOK : Hid (∀ n, getNodeF l = some n → okV n) := fun n hn => (getNodeF_put hl hn).2.2
  have SP : Hid (∀ v u, Row u v l.length (flatB l) → Calls Tryd.prog 17 #[v] u fun e w' => (∃ (x : TV) (vk : Value), e = .returned (.tuple #[x.val, vk, .bool (getNodeF l).isSome]) ∧ TreeAt 2 w' x (treeG (getNodeF l)) ∧ Row w' vk (kidsG (getNodeF l)).length (flatI (kidsG (getNodeF l)))) ∧ Below u.heap.size u w') := fun v u hu => SPEC v l u hu hl (by omega)
  have IM : Hid (∀ v u, Row u v l.length (flatB l) → ErrIs ea u → Calls Tryd.prog 12 #[v] u fun e w' => (∃ (vt vk : Value), e = .returned (.tuple #[vt, vk, .bool (getNodeF l).isSome]) ∧ AnsV u.heap.size w' vt vk (getNodeF l)) ∧ Below u.heap.size u w') := fun v u hu he => (implGetNode_any ea v l u hu hl he).mono (fun e w' h => ⟨h.1.split HOK.out, h.2⟩)
  clear HOK
  generalize getNodeF l = g at *
  generalize hsm : g.isSome = sm at *
  clear hsm
  have hbl : l.length ≤ 1048576 := by omega
  go_enter Tryd.func7, Tryd.ntmps7
  go_wp2_with fail
  refine (toByteS_any _ l w (RA.out w (Below.refl _ _)).1 hbl).mono ?_
  rintro e w1 ⟨v1, rfl, o1, b1⟩
  have R1 := Row.of_owns o1
  have B1 : Hid (Below w.heap.size w w1) := b1
  clear o1 b1
  go_wp2_with fail
  refine (SP.out v1 w1 R1).mono ?_
  rintro e w2 ⟨⟨x, vk, rfl, T2, K2⟩, b2⟩
  obtain ⟨p1, p2, p3, p4, y1, y2, y3, y4, hx⟩ := T2.shape
  obtain ⟨ak, qk, hvk, _⟩ := K2.len
  subst hx
  subst hvk
  have SPR : Hid (∀ u, Below w2.heap.size w2 u → TreeAt 2 u (⟨(treeG g).leaf, .slice p1 (treeG g).pairs.length y1, .slice p2 (treeG g).cuts.length y2, .slice p3 (treeG g).kids.length y3, .slice p4 (treeG g).buf.length y4⟩ : TV) (treeG g) ∧ Row u (.slice ak (kidsG g).length qk) (kidsG g).length (flatI (kidsG g))) := fun u hu => ⟨T2.below hu, K2.below hu⟩
  have BW2 : Hid (Below w.heap.size w w2) := Below.and B1.out b2
  clear T2 K2 b2 B1 R1 SP SPEC
  have KH : Hid (treeG g = treeG g ∧ kidsG g = kidsG g) := ⟨rfl, rfl⟩
  generalize hT : treeG g = T at *
  generalize hK : kidsG g = ks at *
  have HTK : Hid (treeG g = T ∧ kidsG g = ks) := ⟨hT, hK⟩
  clear hT hK KH
  have Z3 : Hid (BoxIs (w2.alloc (.cells #[.bool T.leaf, .slice p1 T.pairs.length y1, .slice p2 T.cuts.length y2, .slice p3 T.kids.length y3, .slice p4 T.buf.length y4] 29)) w2.heap.size (.bool T.leaf) (.slice p1 T.pairs.length y1) (.slice p2 T.cuts.length y2) (.slice p3 T.kids.length y3) (.slice p4 T.buf.length y4)) := heap_alloc_new _ _
  have BW3 : Hid (Below w2.heap.size w2 (w2.alloc (.cells #[.bool T.leaf, .slice p1 T.pairs.length y1, .slice p2 T.cuts.length y2, .slice p3 T.kids.length y3, .slice p4 T.buf.length y4] 29))) := bel_new _ _
  have s3 : (w2.alloc (.cells #[.bool T.leaf, .slice p1 T.pairs.length y1, .slice p2 T.cuts.length y2, .slice p3 T.kids.length y3, .slice p4 T.buf.length y4] 29)).heap.size = w2.heap.size + 1 := by simp
  go_wp2_with fail
  generalize hB3 : w2.heap.size = B3 at *
  generalize w2.alloc (.cells #[.bool T.leaf, .slice p1 T.pairs.length y1, .slice p2 T.cuts.length y2, .slice p3 T.kids.length y3, .slice p4 T.buf.length y4] 29) = W2 at *
  refine (toByteS_any _ l W2 (RA.out _ (Below.and BW2.out (by rw [hB3]; exact BW3.out))).1 hbl).mono ?_
  rintro e w3 ⟨v3, rfl, o3, b3⟩
  obtain ⟨a3, q3, hv3, _, _⟩ := owns_shape o3
  subst hv3
  have L3 : ∀ g, (Value.slice a3 l.length q3).ownBlock = some g → W2.heap.size ≤ g ∧ g < w3.heap.size := fun g hg => o3.lt g hg
  have h23 : W2.heap.size ≤ w3.heap.size := b3.size
  have M3 : Hid (w3.ownsRow W2.heap.size 5 1 (.slice a3 l.length q3) l.length (flatB l) ∧ BoxIs w3 B3 (.bool T.leaf) (.slice p1 T.pairs.length y1) (.slice p2 T.cuts.length y2) (.slice p3 T.kids.length y3) (.slice p4 T.buf.length y4) ∧ Below B3 w2 w3 ∧ Below w.heap.size w w3 ∧ (∀ g, (Value.slice a3 l.length q3).ownBlock = some g → W2.heap.size ≤ g ∧ g < w3.heap.size)) :=
    ⟨o3, row_chg Z3.out (Chg.of_below (F := fun _ => False) b3) id, BW3.out.trans (b3.mono (by omega)), Below.and (BW2.out.trans (BW3.out.mono (by have := BW2.out.size; omega))) b3, L3⟩
  clear o3 b3 Z3 BW3 L3
  go_wp2_with fail
  refine (IM.out _ w3 (Row.of_owns M3.out.1) (RA.out _ M3.out.2.2.2.1).2).mono ?_
  rintro e w4 ⟨⟨vt, vk2, rfl, AN⟩, b4⟩
  obtain ⟨⟨x7, hx7, T7⟩, K7⟩ := AN.tree
  rw [HTK.out.1] at T7
  rw [HTK.out.2] at K7
  obtain ⟨r1, r2, r3, r4, z1, z2, z3, z4, hx7'⟩ := T7.shape
  obtain ⟨ak2, qk2, hvk2, _⟩ := K7.len
  subst hx7'
  subst hx7
  subst hvk2
  have E7 : (⟨T.leaf, .slice r1 T.pairs.length z1, .slice r2 T.cuts.length z2, .slice r3 T.kids.length z3, .slice r4 T.buf.length z4⟩ : TV).val = (.agg #[.bool T.leaf, .slice r1 T.pairs.length z1, .slice r2 T.cuts.length z2, .slice r3 T.kids.length z3, .slice r4 T.buf.length z4]) := rfl
  rw [E7] at AN ⊢
  clear E7 T7 K7
  have AB : Hid (AnsB w4.heap.size (.agg #[.bool T.leaf, .slice r1 T.pairs.length z1, .slice r2 T.cuts.length z2, .slice r3 T.kids.length z3, .slice r4 T.buf.length z4]) (.slice ak2 ks.length qk2) g) := AN.hi
  have h34 : w3.heap.size ≤ w4.heap.size := b4.size
  generalize hN2 : W2.heap.size = N2 at *
  generalize hN3 : w3.heap.size = N3 at *
  have M4 : Hid (Below w.heap.size w (w4.alloc (.cells #[.bool T.leaf, .slice r1 T.pairs.length z1, .slice r2 T.cuts.length z2, .slice r3 T.kids.length z3, .slice r4 T.buf.length z4] 29)) ∧ Below B3 w2 (w4.alloc (.cells #[.bool T.leaf, .slice r1 T.pairs.length z1, .slice r2 T.cuts.length z2, .slice r3 T.kids.length z3, .slice r4 T.buf.length z4] 29)) ∧ BoxIs (w4.alloc (.cells #[.bool T.leaf, .slice r1 T.pairs.length z1, .slice r2 T.cuts.length z2, .slice r3 T.kids.length z3, .slice r4 T.buf.length z4] 29)) B3 (.bool T.leaf) (.slice p1 T.pairs.length y1) (.slice p2 T.cuts.length y2) (.slice p3 T.kids.length y3) (.slice p4 T.buf.length y4) ∧ BoxIs (w4.alloc (.cells #[.bool T.leaf, .slice r1 T.pairs.length z1, .slice r2 T.cuts.length z2, .slice r3 T.kids.length z3, .slice r4 T.buf.length z4] 29)) w4.heap.size (.bool T.leaf) (.slice r1 T.pairs.length z1) (.slice r2 T.cuts.length z2) (.slice r3 T.kids.length z3) (.slice r4 T.buf.length z4) ∧ AnsV N3 (w4.alloc (.cells #[.bool T.leaf, .slice r1 T.pairs.length z1, .slice r2 T.cuts.length z2, .slice r3 T.kids.length z3, .slice r4 T.buf.length z4] 29)) (.agg #[.bool T.leaf, .slice r1 T.pairs.length z1, .slice r2 T.cuts.length z2, .slice r3 T.kids.length z3, .slice r4 T.buf.length z4]) (.slice ak2 ks.length qk2) g ∧ (w4.alloc (.cells #[.bool T.leaf, .slice r1 T.pairs.length z1, .slice r2 T.cuts.length z2, .slice r3 T.kids.length z3, .slice r4 T.buf.length z4] 29)).ownsRow N2 5 1 (.slice a3 l.length q3) l.length (flatB l)) := by
    have bb : Below w3.heap.size w3 (w4.alloc (.cells #[.bool T.leaf, .slice r1 T.pairs.length z1, .slice r2 T.cuts.length z2, .slice r3 T.kids.length z3, .slice r4 T.buf.length z4] 29)) := by rw [hN3]; exact b4.trans ((bel_new w4 _).mono (by omega))
    exact ⟨Below.and M3.out.2.2.2.1 bb, M3.out.2.2.1.trans (bb.mono (by omega)), row_chg M3.out.2.1 (Chg.of_below (F := fun _ => False) bb) id, heap_alloc_new _ _, AN.below (bel_new _ _), owns_below M3.out.1 bb⟩
  have c3' : BoxIs w4 B3 (.bool T.leaf) (.slice p1 T.pairs.length y1) (.slice p2 T.cuts.length y2) (.slice p3 T.kids.length y3) (.slice p4 T.buf.length y4) := row_chg M3.out.2.1 (Chg.of_below (F := fun _ => False) (by rw [hN3]; exact b4)) id
  obtain ⟨c0, c1, c2, c3, c4⟩ := c3'.cell
  clear c3'
  have hlt4 : B3 < w4.heap.size := by omega
  have hne : ¬ B3 = w4.heap.size := by omega
  have hne2 : ¬ w4.heap.size = B3 := by omega
  have V3 : Hid (∀ g, (Value.slice a3 l.length q3).ownBlock = some g → N2 ≤ g ∧ g < N3) := M3.out.2.2.2.2
  clear M3 AN b4
  go_wp2_with fail
  generalize hB7 : w4.heap.size = B7 at *
  generalize w4.alloc (.cells #[.bool T.leaf, .slice r1 T.pairs.length z1, .slice r2 T.cuts.length z2, .slice r3 T.kids.length z3, .slice r4 T.buf.length z4] 29) = W4 at *
  clear c0 c1 c2 c3 c4 hne hne2 hlt4
  have SPR' : Hid (∀ u, Below B3 w2 u → TreeAt 2 u ⟨T.leaf, .slice p1 T.pairs.length y1, .slice p2 T.cuts.length y2, .slice p3 T.kids.length y3, .slice p4 T.buf.length y4⟩ T ∧ Row u (.slice ak ks.length qk) ks.length (flatI ks)) := fun u hu => SPR.out u hu
  have TE : Hid (∀ u, AnsV N3 u (.agg #[.bool T.leaf, .slice r1 T.pairs.length z1, .slice r2 T.cuts.length z2, .slice r3 T.kids.length z3, .slice r4 T.buf.length z4]) (.slice ak2 ks.length qk2) g → TreeAt 2 u ⟨T.leaf, .slice r1 T.pairs.length z1, .slice r2 T.cuts.length z2, .slice r3 T.kids.length z3, .slice r4 T.buf.length z4⟩ T ∧ Row u (.slice ak2 ks.length qk2) ks.length (flatI ks)) := fun u hu => by
    have := AnsV.tree' (x := ⟨T.leaf, .slice r1 T.pairs.length z1, .slice r2 T.cuts.length z2, .slice r3 T.kids.length z3, .slice r4 T.buf.length z4⟩) hu
    rw [HTK.out.1, HTK.out.2] at this
    exact this
  clear SPR
  refine (eqTree_any 2 ⟨T.leaf, .slice r1 T.pairs.length z1, .slice r2 T.cuts.length z2, .slice r3 T.kids.length z3, .slice r4 T.buf.length z4⟩ ⟨T.leaf, .slice p1 T.pairs.length y1, .slice p2 T.cuts.length y2, .slice p3 T.kids.length y3, .slice p4 T.buf.length y4⟩ T W4 (TE.out W4 M4.out.2.2.2.2.1).1 (SPR'.out W4 M4.out.2.1).1).mono ?_
  rintro e w5 ⟨rfl, b5⟩
  have M5 : Hid (Below w.heap.size w w5 ∧ Below B3 w2 w5 ∧ BoxIs w5 B3 (.bool T.leaf) (.slice p1 T.pairs.length y1) (.slice p2 T.cuts.length y2) (.slice p3 T.kids.length y3) (.slice p4 T.buf.length y4) ∧ BoxIs w5 B7 (.bool T.leaf) (.slice r1 T.pairs.length z1) (.slice r2 T.cuts.length z2) (.slice r3 T.kids.length z3) (.slice r4 T.buf.length z4) ∧ AnsV N3 w5 (.agg #[.bool T.leaf, .slice r1 T.pairs.length z1, .slice r2 T.cuts.length z2, .slice r3 T.kids.length z3, .slice r4 T.buf.length z4]) (.slice ak2 ks.length qk2) g ∧ w5.ownsRow N2 5 1 (.slice a3 l.length q3) l.length (flatB l)) := ⟨Below.and M4.out.1 b5, M4.out.2.1.trans (b5.mono (by have := M4.out.2.1.size; omega)), row_chg M4.out.2.2.1 (Chg.of_below (F := fun _ => False) b5) id, row_chg M4.out.2.2.2.1 (Chg.of_below (F := fun _ => False) b5) id, M4.out.2.2.2.2.1.below b5, owns_below M4.out.2.2.2.2.2 b5⟩
  clear M4 b5
  go_wp2_with fail
  refine (eqIntS_any _ _ ks ks w5 (TE.out w5 M5.out.2.2.2.2.1).2 (SPR'.out w5 M5.out.2.1).2).mono ?_
  rintro e w6 ⟨rfl, b6⟩
  have M6 : Hid (Below w.heap.size w w6 ∧ Below B3 w2 w6 ∧ BoxIs w6 B3 (.bool T.leaf) (.slice p1 T.pairs.length y1) (.slice p2 T.cuts.length y2) (.slice p3 T.kids.length y3) (.slice p4 T.buf.length y4) ∧ BoxIs w6 B7 (.bool T.leaf) (.slice r1 T.pairs.length z1) (.slice r2 T.cuts.length z2) (.slice r3 T.kids.length z3) (.slice r4 T.buf.length z4) ∧ AnsV N3 w6 (.agg #[.bool T.leaf, .slice r1 T.pairs.length z1, .slice r2 T.cuts.length z2, .slice r3 T.kids.length z3, .slice r4 T.buf.length z4]) (.slice ak2 ks.length qk2) g ∧ w6.ownsRow N2 5 1 (.slice a3 l.length q3) l.length (flatB l)) := ⟨Below.and M5.out.1 b6, M5.out.2.1.trans (b6.mono (by have := M5.out.2.1.size; omega)), row_chg M5.out.2.2.1 (Chg.of_below (F := fun _ => False) b6) id, row_chg M5.out.2.2.2.1 (Chg.of_below (F := fun _ => False) b6) id, M5.out.2.2.2.2.1.below b6, owns_below M5.out.2.2.2.2.2 b6⟩
  rw [decide_eq_true (rfl : ks = ks)]
  clear M5 b6
  have hsm : (sm != sm) = false := by simp
  go_wp2_with fail
  refine (toByteS_any _ l w6 (RA.out _ M6.out.1).1 hbl).mono ?_
  rintro e w7 ⟨v7, rfl, o7, b7⟩
  have M7 : Hid (Below w.heap.size w w7 ∧ Below B3 w2 w7 ∧ BoxIs w7 B3 (.bool T.leaf) (.slice p1 T.pairs.length y1) (.slice p2 T.cuts.length y2) (.slice p3 T.kids.length y3) (.slice p4 T.buf.length y4) ∧ BoxIs w7 B7 (.bool T.leaf) (.slice r1 T.pairs.length z1) (.slice r2 T.cuts.length z2) (.slice r3 T.kids.length z3) (.slice r4 T.buf.length z4) ∧ AnsV N3 w7 (.agg #[.bool T.leaf, .slice r1 T.pairs.length z1, .slice r2 T.cuts.length z2, .slice r3 T.kids.length z3, .slice r4 T.buf.length z4]) (.slice ak2 ks.length qk2) g ∧ w7.ownsRow N2 5 1 (.slice a3 l.length q3) l.length (flatB l)) := ⟨Below.and M6.out.1 b7, M6.out.2.1.trans (b7.mono (by have := M6.out.2.1.size; omega)), row_chg M6.out.2.2.1 (Chg.of_below (F := fun _ => False) b7) id, row_chg M6.out.2.2.2.1 (Chg.of_below (F := fun _ => False) b7) id, M6.out.2.2.2.2.1.below b7, owns_below M6.out.2.2.2.2.2 b7⟩
  have R7 := Row.of_owns o7
  clear M6 b7 o7
  go_wp2_with fail
  refine (eqByteS_any _ _ l l w7 (Row.of_owns M7.out.2.2.2.2.2) R7).mono ?_
  rintro e w8 ⟨rfl, b8⟩
  rw [decide_eq_true (rfl : l = l)]
  have M8 : Hid (Below w.heap.size w w8 ∧ Below B3 w2 w8 ∧ BoxIs w8 B3 (.bool T.leaf) (.slice p1 T.pairs.length y1) (.slice p2 T.cuts.length y2) (.slice p3 T.kids.length y3) (.slice p4 T.buf.length y4) ∧ BoxIs w8 B7 (.bool T.leaf) (.slice r1 T.pairs.length z1) (.slice r2 T.cuts.length z2) (.slice r3 T.kids.length z3) (.slice r4 T.buf.length z4) ∧ AnsV N3 w8 (.agg #[.bool T.leaf, .slice r1 T.pairs.length z1, .slice r2 T.cuts.length z2, .slice r3 T.kids.length z3, .slice r4 T.buf.length z4]) (.slice ak2 ks.length qk2) g ∧ w8.ownsRow N2 5 1 (.slice a3 l.length q3) l.length (flatB l)) := ⟨Below.and M7.out.1 b8, M7.out.2.1.trans (b8.mono (by have := M7.out.2.1.size; omega)), row_chg M7.out.2.2.1 (Chg.of_below (F := fun _ => False) b8) id, row_chg M7.out.2.2.2.1 (Chg.of_below (F := fun _ => False) b8) id, M7.out.2.2.2.2.1.below b8, owns_below M7.out.2.2.2.2.2 b8⟩
  clear M7 b8 R7
  go_wp2_with fail
  refine (markByteS_any _ l 1 w8 (owns_mono M8.out.2.2.2.2.2 (Nat.zero_le _)) (by omega) (by decide) (by decide)).mono ?_
  rintro e w9 ⟨rfl, _, ch9⟩
  have M9 : Hid (Below w.heap.size w w9 ∧ Below B3 w2 w9 ∧ BoxIs w9 B3 (.bool T.leaf) (.slice p1 T.pairs.length y1) (.slice p2 T.cuts.length y2) (.slice p3 T.kids.length y3) (.slice p4 T.buf.length y4) ∧ BoxIs w9 B7 (.bool T.leaf) (.slice r1 T.pairs.length z1) (.slice r2 T.cuts.length z2) (.slice r3 T.kids.length z3) (.slice r4 T.buf.length z4) ∧ AnsV N3 w9 (.agg #[.bool T.leaf, .slice r1 T.pairs.length z1, .slice r2 T.cuts.length z2, .slice r3 T.kids.length z3, .slice r4 T.buf.length z4]) (.slice ak2 ks.length qk2) g) := by
    obtain ⟨m1, m2, m3, m4, m5, m6⟩ := M8.out
    have hs2 := m2.size
    have hs1 := m1.size
    have bw := BW2.out.size
    refine ⟨m1.trans (ch9.below (fun g _ hg => by have := (V3.out g hg).1; omega) hs1), m2.trans (ch9.below (fun g _ hg => by have := (V3.out g hg).1; omega) (by omega)), m3.chg ch9 (fun e => by have := (V3.out _ e).1; omega), m4.chg ch9 (fun e => by have := (V3.out _ e).2; omega), m5.chg ch9 (fun g hg => (V3.out g hg).2)⟩
  clear M8 ch9
  obtain ⟨c0, c1, c2, c3, c4⟩ := M9.out.2.2.1.cell
  obtain ⟨d0, d1, d2, d3, d4⟩ := M9.out.2.2.2.1.cell
  have hk0 : ¬ (1 : Int) + l.length < 0 := by omega
  go_wp2_with fail
  refine (eqTree_any 2 ⟨T.leaf, .slice r1 T.pairs.length z1, .slice r2 T.cuts.length z2, .slice r3 T.kids.length z3, .slice r4 T.buf.length z4⟩ ⟨T.leaf, .slice p1 T.pairs.length y1, .slice p2 T.cuts.length y2, .slice p3 T.kids.length y3, .slice p4 T.buf.length y4⟩ T w9 (TE.out w9 M9.out.2.2.2.2).1 (SPR'.out w9 M9.out.2.1).1).mono ?_
  rintro e w10 ⟨rfl, b10⟩
  have M10 : Hid (Below w.heap.size w w10 ∧ Below B3 w2 w10 ∧ BoxIs w10 B3 (.bool T.leaf) (.slice p1 T.pairs.length y1) (.slice p2 T.cuts.length y2) (.slice p3 T.kids.length y3) (.slice p4 T.buf.length y4) ∧ BoxIs w10 B7 (.bool T.leaf) (.slice r1 T.pairs.length z1) (.slice r2 T.cuts.length z2) (.slice r3 T.kids.length z3) (.slice r4 T.buf.length z4) ∧ AnsV N3 w10 (.agg #[.bool T.leaf, .slice r1 T.pairs.length z1, .slice r2 T.cuts.length z2, .slice r3 T.kids.length z3, .slice r4 T.buf.length z4]) (.slice ak2 ks.length qk2) g) := ⟨Below.and M9.out.1 b10, M9.out.2.1.trans (b10.mono (by have := M9.out.2.1.size; omega)), row_chg M9.out.2.2.1 (Chg.of_below (F := fun _ => False) b10) id, row_chg M9.out.2.2.2.1 (Chg.of_below (F := fun _ => False) b10) id, M9.out.2.2.2.2.below b10⟩
  clear M9 b10 c0 c1 c2 c3 c4 d0 d1 d2 d3 d4
  go_wp2_with fail
  refine (eqIntS_any _ _ ks ks w10 (TE.out w10 M10.out.2.2.2.2).2 (SPR'.out w10 M10.out.2.1).2).mono ?_
  rintro e w11 ⟨rfl, b11⟩
  rw [decide_eq_true (rfl : ks = ks)]
  have M11 : Hid (Below w.heap.size w w11 ∧ Below B3 w2 w11 ∧ BoxIs w11 B3 (.bool T.leaf) (.slice p1 T.pairs.length y1) (.slice p2 T.cuts.length y2) (.slice p3 T.kids.length y3) (.slice p4 T.buf.length y4) ∧ BoxIs w11 B7 (.bool T.leaf) (.slice r1 T.pairs.length z1) (.slice r2 T.cuts.length z2) (.slice r3 T.kids.length z3) (.slice r4 T.buf.length z4) ∧ AnsV N3 w11 (.agg #[.bool T.leaf, .slice r1 T.pairs.length z1, .slice r2 T.cuts.length z2, .slice r3 T.kids.length z3, .slice r4 T.buf.length z4]) (.slice ak2 ks.length qk2) g) := ⟨Below.and M10.out.1 b11, M10.out.2.1.trans (b11.mono (by have := M10.out.2.1.size; omega)), row_chg M10.out.2.2.1 (Chg.of_below (F := fun _ => False) b11) id, row_chg M10.out.2.2.2.1 (Chg.of_below (F := fun _ => False) b11) id, M10.out.2.2.2.2.below b11⟩
  clear M10 b11
  obtain ⟨d0, d1, d2, d3, d4⟩ := M11.out.2.2.2.1.cell
  go_wp2_with fail
  refine (markTree_ans N3 B7 _ _ g w11 M11.out.2.2.2.2 AB.out).mono ?_
  rintro e w12 ⟨rfl, at12, ch12⟩
  have hin := mtN_in at12
  have M12 : Hid (Below w.heap.size w w12 ∧ Below B3 w2 w12 ∧ BoxIs w12 B3 (.bool T.leaf) (.slice p1 T.pairs.length y1) (.slice p2 T.cuts.length y2) (.slice p3 T.kids.length y3) (.slice p4 T.buf.length y4) ∧ BoxIs w12 B7 (.bool T.leaf) (.slice r1 T.pairs.length z1) (.slice r2 T.cuts.length z2) (.slice r3 T.kids.length z3) (.slice r4 T.buf.length z4) ∧ AnsT N3 w12 (.agg #[.bool T.leaf, .slice r1 T.pairs.length z1, .slice r2 T.cuts.length z2, .slice r3 T.kids.length z3, .slice r4 T.buf.length z4]) (.slice ak2 ks.length qk2) g) := by
    obtain ⟨m1, m2, m3, m4, m5⟩ := M11.out
    have hs2 := m2.size
    have hs1 := m1.size
    have bw := BW2.out.size
    exact ⟨m1.trans (ch12.below (fun g _ hg => by omega) hs1), m2.trans (ch12.below (fun g _ hg => by omega) (by omega)), m3.chg ch12 (fun e => by omega), m4.chg ch12 (fun e => by omega), at12⟩
  clear M11 at12 ch12 d0 d1 d2 d3 d4
  obtain ⟨hi1, hi2, hi3, hi4⟩ := hin
  go_wp2_with fail
  refine (markIntS_ans N3 B7 _ _ g w12 M12.out.2.2.2.2 AB.out).mono ?_
  rintro e w13 ⟨rfl, am13, ch13⟩
  have M13 : Hid (Below w.heap.size w w13 ∧ Below B3 w2 w13 ∧ BoxIs w13 B3 (.bool T.leaf) (.slice p1 T.pairs.length y1) (.slice p2 T.cuts.length y2) (.slice p3 T.kids.length y3) (.slice p4 T.buf.length y4) ∧ BoxIs w13 B7 (.bool T.leaf) (.slice r1 T.pairs.length z1) (.slice r2 T.cuts.length z2) (.slice r3 T.kids.length z3) (.slice r4 T.buf.length z4) ∧ AnsM w13 (.agg #[.bool T.leaf, .slice r1 T.pairs.length z1, .slice r2 T.cuts.length z2, .slice r3 T.kids.length z3, .slice r4 T.buf.length z4]) (.slice ak2 ks.length qk2) g) := by
    obtain ⟨m1, m2, m3, m4, m5⟩ := M12.out
    have hs2 := m2.size
    have hs1 := m1.size
    have bw := BW2.out.size
    exact ⟨m1.trans (ch13.below (fun g _ hg => by omega) hs1), m2.trans (ch13.below (fun g _ hg => by omega) (by omega)), m3.chg ch13 (fun e => by omega), m4.chg ch13 (fun e => by omega), am13⟩
  clear M12 am13 ch13
  have hm1 : ¬ (1 : Int) + mtN g < 0 := by omega
  have hm2 : ¬ (1 : Int) + mtN g + mkN g < 0 := by omega
  generalize hmt : mtN g = mt at *
  generalize hmk : mkN g = mk at *
  have HM : Hid (mtN g = mt ∧ mkN g = mk) := ⟨hmt, hmk⟩
  clear hmt hmk
  obtain ⟨d0, d1, d2, d3, d4⟩ := M13.out.2.2.2.1.cell
  go_wp2_with fail
  refine (heldTree_ans _ _ g w13 M13.out.2.2.2.2).mono ?_
  rintro e w14 ⟨rfl, b14⟩
  rw [HM.out.1]
  have M14 : Hid (Below w.heap.size w w14 ∧ Below B3 w2 w14 ∧ BoxIs w14 B3 (.bool T.leaf) (.slice p1 T.pairs.length y1) (.slice p2 T.cuts.length y2) (.slice p3 T.kids.length y3) (.slice p4 T.buf.length y4) ∧ BoxIs w14 B7 (.bool T.leaf) (.slice r1 T.pairs.length z1) (.slice r2 T.cuts.length z2) (.slice r3 T.kids.length z3) (.slice r4 T.buf.length z4) ∧ AnsM w14 (.agg #[.bool T.leaf, .slice r1 T.pairs.length z1, .slice r2 T.cuts.length z2, .slice r3 T.kids.length z3, .slice r4 T.buf.length z4]) (.slice ak2 ks.length qk2) g) := ⟨Below.and M13.out.1 b14, M13.out.2.1.trans (b14.mono (by have := M13.out.2.1.size; omega)), row_chg M13.out.2.2.1 (Chg.of_below (F := fun _ => False) b14) id, row_chg M13.out.2.2.2.1 (Chg.of_below (F := fun _ => False) b14) id, M13.out.2.2.2.2.below b14⟩
  clear M13 b14 d0 d1 d2 d3 d4
  have HI14 := heldIntS_ans _ _ g w14 M14.out.2.2.2.2
  rw [HM.out.1, HM.out.2] at HI14
  go_wp2_with fail
  refine HI14.mono ?_
  rintro e w15 ⟨rfl, b15⟩
  have M15 : Hid (Below w.heap.size w w15 ∧ Below B3 w2 w15 ∧ BoxIs w15 B3 (.bool T.leaf) (.slice p1 T.pairs.length y1) (.slice p2 T.cuts.length y2) (.slice p3 T.kids.length y3) (.slice p4 T.buf.length y4) ∧ BoxIs w15 B7 (.bool T.leaf) (.slice r1 T.pairs.length z1) (.slice r2 T.cuts.length z2) (.slice r3 T.kids.length z3) (.slice r4 T.buf.length z4) ∧ AnsM w15 (.agg #[.bool T.leaf, .slice r1 T.pairs.length z1, .slice r2 T.cuts.length z2, .slice r3 T.kids.length z3, .slice r4 T.buf.length z4]) (.slice ak2 ks.length qk2) g) := ⟨Below.and M14.out.1 b15, M14.out.2.1.trans (b15.mono (by have := M14.out.2.1.size; omega)), row_chg M14.out.2.2.1 (Chg.of_below (F := fun _ => False) b15) id, row_chg M14.out.2.2.2.1 (Chg.of_below (F := fun _ => False) b15) id, M14.out.2.2.2.2.below b15⟩
  clear M14 b15
  go_wp2_with fail
  refine (toByteS_any _ l w15 (RA.out _ M15.out.1).1 hbl).mono ?_
  rintro e w16 ⟨v16, rfl, o16, b16⟩
  have M16 : Hid (Below w.heap.size w w16 ∧ Below B3 w2 w16 ∧ BoxIs w16 B3 (.bool T.leaf) (.slice p1 T.pairs.length y1) (.slice p2 T.cuts.length y2) (.slice p3 T.kids.length y3) (.slice p4 T.buf.length y4) ∧ BoxIs w16 B7 (.bool T.leaf) (.slice r1 T.pairs.length z1) (.slice r2 T.cuts.length z2) (.slice r3 T.kids.length z3) (.slice r4 T.buf.length z4) ∧ AnsM w16 (.agg #[.bool T.leaf, .slice r1 T.pairs.length z1, .slice r2 T.cuts.length z2, .slice r3 T.kids.length z3, .slice r4 T.buf.length z4]) (.slice ak2 ks.length qk2) g) := ⟨Below.and M15.out.1 b16, M15.out.2.1.trans (b16.mono (by have := M15.out.2.1.size; omega)), row_chg M15.out.2.2.1 (Chg.of_below (F := fun _ => False) b16) id, row_chg M15.out.2.2.2.1 (Chg.of_below (F := fun _ => False) b16) id, M15.out.2.2.2.2.below b16⟩
  have R16 := Row.of_owns o16
  clear M15 b16 o16
  go_wp2_with fail
  refine (IM.out _ w16 R16 (RA.out _ M16.out.1).2).mono ?_
  rintro e w17 ⟨⟨vt', vk', rfl, AN'⟩, b17⟩
  obtain ⟨⟨x', hx', T'⟩, K'⟩ := AN'.tree
  rw [HTK.out.1] at T'
  rw [HTK.out.2] at K'
  obtain ⟨t1, t2, t3, t4, x1, x2, x3, x4, hx''⟩ := T'.shape
  obtain ⟨ak3, qk3, hvk3, _⟩ := K'.len
  subst hx''
  subst hx'
  subst hvk3
  have E13 : (⟨T.leaf, .slice t1 T.pairs.length x1, .slice t2 T.cuts.length x2, .slice t3 T.kids.length x3, .slice t4 T.buf.length x4⟩ : TV).val = (.agg #[.bool T.leaf, .slice t1 T.pairs.length x1, .slice t2 T.cuts.length x2, .slice t3 T.kids.length x3, .slice t4 T.buf.length x4]) := rfl
  rw [E13]
  clear E13 AN'
  have M17 : Hid (Below w.heap.size w w17 ∧ Below B3 w2 w17 ∧ BoxIs w17 B3 (.bool T.leaf) (.slice p1 T.pairs.length y1) (.slice p2 T.cuts.length y2) (.slice p3 T.kids.length y3) (.slice p4 T.buf.length y4) ∧ BoxIs w17 B7 (.bool T.leaf) (.slice r1 T.pairs.length z1) (.slice r2 T.cuts.length z2) (.slice r3 T.kids.length z3) (.slice r4 T.buf.length z4) ∧ AnsM w17 (.agg #[.bool T.leaf, .slice r1 T.pairs.length z1, .slice r2 T.cuts.length z2, .slice r3 T.kids.length z3, .slice r4 T.buf.length z4]) (.slice ak2 ks.length qk2) g) := ⟨Below.and M16.out.1 b17, M16.out.2.1.trans (b17.mono (by have := M16.out.2.1.size; omega)), row_chg M16.out.2.2.1 (Chg.of_below (F := fun _ => False) b17) id, row_chg M16.out.2.2.2.1 (Chg.of_below (F := fun _ => False) b17) id, M16.out.2.2.2.2.below b17⟩
  obtain ⟨c0, c1, c2, c3, c4⟩ := M17.out.2.2.1.cell
  have hlt17 : B3 < w17.heap.size := (Array.getElem?_eq_some_iff.1 M17.out.2.2.1).1
  have hne : ¬ B3 = w17.heap.size := by omega
  have hne2 : ¬ w17.heap.size = B3 := by omega
  have b18 : Below w17.heap.size w17 (w17.alloc (.cells #[.bool T.leaf, .slice t1 T.pairs.length x1, .slice t2 T.cuts.length x2, .slice t3 T.kids.length x3, .slice t4 T.buf.length x4] 29)) := bel_new _ _
  have M18 : Hid ((Below w.heap.size w (w17.alloc (.cells #[.bool T.leaf, .slice t1 T.pairs.length x1, .slice t2 T.cuts.length x2, .slice t3 T.kids.length x3, .slice t4 T.buf.length x4] 29)) ∧ Below B3 w2 (w17.alloc (.cells #[.bool T.leaf, .slice t1 T.pairs.length x1, .slice t2 T.cuts.length x2, .slice t3 T.kids.length x3, .slice t4 T.buf.length x4] 29)) ∧ BoxIs (w17.alloc (.cells #[.bool T.leaf, .slice t1 T.pairs.length x1, .slice t2 T.cuts.length x2, .slice t3 T.kids.length x3, .slice t4 T.buf.length x4] 29)) B3 (.bool T.leaf) (.slice p1 T.pairs.length y1) (.slice p2 T.cuts.length y2) (.slice p3 T.kids.length y3) (.slice p4 T.buf.length y4) ∧ BoxIs (w17.alloc (.cells #[.bool T.leaf, .slice t1 T.pairs.length x1, .slice t2 T.cuts.length x2, .slice t3 T.kids.length x3, .slice t4 T.buf.length x4] 29)) B7 (.bool T.leaf) (.slice r1 T.pairs.length z1) (.slice r2 T.cuts.length z2) (.slice r3 T.kids.length z3) (.slice r4 T.buf.length z4) ∧ AnsM (w17.alloc (.cells #[.bool T.leaf, .slice t1 T.pairs.length x1, .slice t2 T.cuts.length x2, .slice t3 T.kids.length x3, .slice t4 T.buf.length x4] 29)) (.agg #[.bool T.leaf, .slice r1 T.pairs.length z1, .slice r2 T.cuts.length z2, .slice r3 T.kids.length z3, .slice r4 T.buf.length z4]) (.slice ak2 ks.length qk2) g) ∧ TreeAt 2 (w17.alloc (.cells #[.bool T.leaf, .slice t1 T.pairs.length x1, .slice t2 T.cuts.length x2, .slice t3 T.kids.length x3, .slice t4 T.buf.length x4] 29)) ⟨T.leaf, .slice t1 T.pairs.length x1, .slice t2 T.cuts.length x2, .slice t3 T.kids.length x3, .slice t4 T.buf.length x4⟩ T ∧ Row (w17.alloc (.cells #[.bool T.leaf, .slice t1 T.pairs.length x1, .slice t2 T.cuts.length x2, .slice t3 T.kids.length x3, .slice t4 T.buf.length x4] 29)) (.slice ak3 ks.length qk3) ks.length (flatI ks)) := ⟨⟨Below.and M17.out.1 b18, M17.out.2.1.trans (b18.mono (by have := M17.out.2.1.size; omega)), row_chg M17.out.2.2.1 (Chg.of_below (F := fun _ => False) b18) id, row_chg M17.out.2.2.2.1 (Chg.of_below (F := fun _ => False) b18) id, M17.out.2.2.2.2.below b18⟩, T'.below b18, K'.below b18⟩
  clear M16 b17 T' K' M17 b18
  go_wp2_with fail
  generalize w17.alloc (.cells #[.bool T.leaf, .slice t1 T.pairs.length x1, .slice t2 T.cuts.length x2, .slice t3 T.kids.length x3, .slice t4 T.buf.length x4] 29) = W18 at *
  refine (eqTree_any 2 ⟨T.leaf, .slice t1 T.pairs.length x1, .slice t2 T.cuts.length x2, .slice t3 T.kids.length x3, .slice t4 T.buf.length x4⟩ ⟨T.leaf, .slice p1 T.pairs.length y1, .slice p2 T.cuts.length y2, .slice p3 T.kids.length y3, .slice p4 T.buf.length y4⟩ T W18 M18.out.2.1 (SPR'.out W18 M18.out.1.2.1).1).mono ?_
  rintro e w19 ⟨rfl, b19⟩
  have M19 : Hid ((Below w.heap.size w w19 ∧ Below B3 w2 w19 ∧ BoxIs w19 B3 (.bool T.leaf) (.slice p1 T.pairs.length y1) (.slice p2 T.cuts.length y2) (.slice p3 T.kids.length y3) (.slice p4 T.buf.length y4) ∧ BoxIs w19 B7 (.bool T.leaf) (.slice r1 T.pairs.length z1) (.slice r2 T.cuts.length z2) (.slice r3 T.kids.length z3) (.slice r4 T.buf.length z4) ∧ AnsM w19 (.agg #[.bool T.leaf, .slice r1 T.pairs.length z1, .slice r2 T.cuts.length z2, .slice r3 T.kids.length z3, .slice r4 T.buf.length z4]) (.slice ak2 ks.length qk2) g) ∧ Row w19 (.slice ak3 ks.length qk3) ks.length (flatI ks)) := ⟨⟨Below.and M18.out.1.1 b19, M18.out.1.2.1.trans (b19.mono (by have := M18.out.1.2.1.size; omega)), row_chg M18.out.1.2.2.1 (Chg.of_below (F := fun _ => False) b19) id, row_chg M18.out.1.2.2.2.1 (Chg.of_below (F := fun _ => False) b19) id, M18.out.1.2.2.2.2.below b19⟩, M18.out.2.2.below b19⟩
  clear M18 b19 c0 c1 c2 c3 c4 hlt17 hne hne2
  go_wp2_with fail
  refine (eqIntS_any _ _ ks ks w19 M19.out.2 (SPR'.out w19 M19.out.1.2.1).2).mono ?_
  rintro e w20 ⟨rfl, b20⟩
  rw [decide_eq_true (rfl : ks = ks)]
  have M20 : Hid (Below w.heap.size w w20 ∧ Below B3 w2 w20 ∧ BoxIs w20 B3 (.bool T.leaf) (.slice p1 T.pairs.length y1) (.slice p2 T.cuts.length y2) (.slice p3 T.kids.length y3) (.slice p4 T.buf.length y4) ∧ BoxIs w20 B7 (.bool T.leaf) (.slice r1 T.pairs.length z1) (.slice r2 T.cuts.length z2) (.slice r3 T.kids.length z3) (.slice r4 T.buf.length z4) ∧ AnsM w20 (.agg #[.bool T.leaf, .slice r1 T.pairs.length z1, .slice r2 T.cuts.length z2, .slice r3 T.kids.length z3, .slice r4 T.buf.length z4]) (.slice ak2 ks.length qk2) g) := ⟨Below.and M19.out.1.1 b20, M19.out.1.2.1.trans (b20.mono (by have := M19.out.1.2.1.size; omega)), row_chg M19.out.1.2.2.1 (Chg.of_below (F := fun _ => False) b20) id, row_chg M19.out.1.2.2.2.1 (Chg.of_below (F := fun _ => False) b20) id, M19.out.1.2.2.2.2.below b20⟩
  clear M19 b20
  obtain ⟨d0, d1, d2, d3, d4⟩ := M20.out.2.2.2.1.cell
  go_wp2_with fail
  refine (heldTree_ans _ _ g w20 M20.out.2.2.2.2).mono ?_
  rintro e w21 ⟨rfl, b21⟩
  rw [HM.out.1]
  have M21 : Hid (Below w.heap.size w w21 ∧ Below B3 w2 w21 ∧ BoxIs w21 B3 (.bool T.leaf) (.slice p1 T.pairs.length y1) (.slice p2 T.cuts.length y2) (.slice p3 T.kids.length y3) (.slice p4 T.buf.length y4) ∧ BoxIs w21 B7 (.bool T.leaf) (.slice r1 T.pairs.length z1) (.slice r2 T.cuts.length z2) (.slice r3 T.kids.length z3) (.slice r4 T.buf.length z4) ∧ AnsM w21 (.agg #[.bool T.leaf, .slice r1 T.pairs.length z1, .slice r2 T.cuts.length z2, .slice r3 T.kids.length z3, .slice r4 T.buf.length z4]) (.slice ak2 ks.length qk2) g) := ⟨Below.and M20.out.1 b21, M20.out.2.1.trans (b21.mono (by have := M20.out.2.1.size; omega)), row_chg M20.out.2.2.1 (Chg.of_below (F := fun _ => False) b21) id, row_chg M20.out.2.2.2.1 (Chg.of_below (F := fun _ => False) b21) id, M20.out.2.2.2.2.below b21⟩
  clear M20 b21 d0 d1 d2 d3 d4
  have HI21 := heldIntS_ans _ _ g w21 M21.out.2.2.2.2
  rw [HM.out.1, HM.out.2] at HI21
  go_wp2_with fail
  refine HI21.mono ?_
  rintro e w22 ⟨rfl, b22⟩
  have M22 : Hid (Below w.heap.size w w22) := Below.and M21.out.1 b22
  clear M21 b22
  go_wp2
  go_ret
  exact ⟨rfl, M22.out⟩

end Go.Proofs.YtfedeljadckjiaaDoor
