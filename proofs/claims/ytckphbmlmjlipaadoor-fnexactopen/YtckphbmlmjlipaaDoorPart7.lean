/-
  The laws' own functions that write marks into a list of messages, and look for them.
  Contracts of the laws' own functions that hold two trees against each other.
  Strong contracts of the laws' marks: numbers; lists that are empty; trees whose kids are zero.
  Strong contracts of the laws' marks: trees whose kids are zero.
  The marks of what GetNode tells: written, and looked for.
  The laws' markTree and heldTree at what GetNode tells.
-/
import Derived.Test.YtckphbmlmjlipaaDoorPart3
import Derived.Test.YtckphbmlmjlipaaDoorPart4
import Derived.Test.YtckphbmlmjlipaaDoorSTest
import Derived.Test.YtckphbmlmjlipaaDoorNode
namespace Go.Proofs.YtckphbmlmjlipaaDoor
open Go.RowKit

def marksM (k : Int) (n : Nat) : ML := (List.range n).map fun (i : Nat) => (k + 3 * i, k + 3 * i + 1, k + 3 * i + 2)
theorem marksM_length (k : Int) (n : Nat) : (marksM k n).length = n := by simp [marksM]
theorem marksM_succ (k : Int) (n : Nat) : marksM k (n + 1) = marksM k n ++ [(k + 3 * n, k + 3 * n + 1, k + 3 * n + 2)] := by simp [marksM, List.range_succ]
theorem marksM_at (k : Int) (n i : Nat) (h : i < n) : mO (marksM k n) i = k + 3 * i ∧ mK (marksM k n) i = k + 3 * i + 1 ∧ mV (marksM k n) i = k + 3 * i + 2 := by
  simp [marksM, mO, mK, mV, List.getD, h]
def midM (k : Int) (l : ML) (i : Nat) : ML := marksM k i ++ l.drop i
theorem midM_length (k : Int) (l : ML) (i : Nat) (h : i ≤ l.length) : (midM k l i).length = l.length := by simp [midM, marksM_length]; omega
theorem midM_zero (k : Int) (l : ML) : midM k l 0 = l := by simp [midM, marksM]
theorem midM_full (k : Int) (l : ML) : midM k l l.length = marksM k l.length := by simp [midM]
theorem midM_step (k : Int) (l : ML) (i : Nat) (h : i < l.length) : (midM k l i).set i (k + 3 * i, k + 3 * i + 1, k + 3 * i + 2) = midM k l (i + 1) := by
  rw [midM, midM, marksM_succ, List.drop_eq_getElem_cons h, List.set_append_right _ _ (by rw [marksM_length]; omega), marksM_length, Nat.sub_self, List.set_cons_zero]
  simp

theorem owns_cap {w : World} {base e size n cap : Nat} {a : Option Addr} {xs : List Value} (h : w.ownsRow base e size (.slice a n cap) n xs) : cap ≤ maxLen := by
  obtain ⟨_, ⟨e, _⟩ | ⟨g, cap', cur, e, _, _, _, hc, _⟩⟩ := h
  · simp at e; rw [e.2.2]; exact Nat.zero_le _
  · simp at e; rw [e.2]; exact hc

set_option maxRecDepth 100000 in
set_option maxHeartbeats 1000000 in
theorem markMsgS_any (v : Value) (l : ML) (k : Int) (w : World) (h : w.ownsRow 0 83 3 v l.length (flatM l)) (hn : l.length ≤ 4194304) (hk0 : 0 ≤ k) (hk1 : k ≤ 4194304) :
    Calls Tryd.prog 37 #[v, .int .i64 k] w fun e w' => e = .returned (.int .i64 (k + 3 * l.length)) ∧ w'.ownsRow 0 83 3 v l.length (flatM (marksM k l.length)) ∧ Chg (fun g => v.ownBlock = some g) w w' := by
  obtain ⟨a, cap, hv⟩ := owns_val h
  have OW : Hid (w.ownsRow 0 83 3 v l.length (flatM l)) := h
  clear h
  rw [hv] at OW ⊢
  clear hv
  have hcap := owns_cap OW.out
  unfold maxLen at hcap
  go_enter Tryd.func37, Tryd.ntmps37
  go_wp2
  go_loopw [1, 5] (fun kk i wr => ∃ j : Nat, j ≤ l.length ∧ i = .int .i64 j ∧ kk = .int .i64 (k + 3 * j) ∧ wr.ownsRow 0 83 3 (.slice a l.length cap) l.length (flatM (midM k l j)) ∧ Chg (fun g => (Value.slice a l.length cap).ownBlock = some g) w wr)
    (fun _ i _ => l.length - (intOf i).toNat)
  case atStart => exact ⟨0, Nat.zero_le _, rfl, by simp, by rw [midM_zero]; exact OW.out, Chg.refl _ _⟩
  case round =>
    obtain ⟨j, hj, rfl, rfl, hown, hch⟩ := hrel
    by_cases hlt : j < l.length
    · have hex : ∃ g, a = some ⟨g, 0, none⟩ := by
        obtain ⟨_, ⟨e, e2⟩ | ⟨g, cap', cur, e, _⟩⟩ := hown
        · omega
        · simp at e; exact ⟨g, e.1⟩
      obtain ⟨g, rfl⟩ := hex
      have hml : (midM k l j).length = l.length := midM_length k l j hj
      have hat := flatM_at (midM k l j) j (by omega)
      have e0 := (hown.cellAt (j * 3) (by omega)).trans hat.1
      have e1 := (hown.cellAt (j * 3 + 1) (by omega)).trans hat.2.1
      have e2 := (hown.cellAt (j * 3 + 2) (by omega)).trans hat.2.2
      have f0 := hown.frozenAt (j * 3)
      have f1 := hown.frozenAt (j * 3 + 1)
      have f2 := hown.frozenAt (j * 3 + 2)
      have st := (hown.stored (j * 3) (.int .i64 (k + 3 * j))).1
      have st2 := (st.stored (j * 3 + 1) (.int .i64 (k + 3 * j + 1))).1
      have st3 := (st2.stored (j * 3 + 2) (.int .i64 (k + 3 * j + 2))).1
      rw [flatM_set _ _ _ _ j (by omega), midM_step k l j hlt] at st3
      have hch2 : Chg (fun g' => (Value.slice (some ⟨g, 0, none⟩) l.length cap).ownBlock = some g') w (((wr.setCell ⟨g, j * 3, none⟩ (.int .i64 (k + 3 * j))).setCell ⟨g, j * 3 + 1, none⟩ (.int .i64 (k + 3 * j + 1))).setCell ⟨g, j * 3 + 2, none⟩ (.int .i64 (k + 3 * j + 2))) :=
        ((hch.setAt g _ rfl _).setAt g _ rfl _).setAt g _ rfl _
      generalize mO (midM k l j) j = x0 at *
      generalize mK (midM k l j) j = x1 at *
      generalize mV (midM k l j) j = x2 at *
      have ST : Hid _ := And.intro st3 hch2
      clear st st2 st3 hch2 hown hch hml hat OW
      have hb0 : 0 ≤ k + 3 * (j : Int) := by omega
      have hb1 : k + 3 * (j : Int) ≤ 100000000 := by omega
      go_wp2
      go_roundw
      case rel => exact ⟨j + 1, by omega, by go_num, by go_num, by rw [show k + 3 * (j : Int) + 2 = k + 3 * (j : Int) + 1 + 1 by omega] at ST; exact ST.out.1, by rw [show k + 3 * (j : Int) + 2 = k + 3 * (j : Int) + 1 + 1 by omega] at ST; exact ST.out.2⟩
      case measure => simp [intOf]; omega
    · have hjl : j = l.length := by omega
      subst hjl
      go_wp2
      go_ret
      rw [midM_full] at hown
      exact ⟨rfl, hown, hch⟩

set_option maxRecDepth 100000 in
set_option maxHeartbeats 1000000 in
theorem heldMsgS_any (v : Value) (n : Nat) (k : Int) (w : World) (h : Row w v n (flatM (marksM k n))) (hn : n ≤ 4194304) (hk0 : 0 ≤ k) (hk1 : k ≤ 4194304) :
    Calls Tryd.prog 41 #[v, .int .i64 k] w fun e w' => e = .returned (.int .i64 (k + 3 * n)) ∧ w' = w := by
  have h' : Row w v (marksM k n).length (flatM (marksM k n)) := by rw [marksM_length]; exact h
  obtain ⟨a, b, off, cap, rfl, hcap, hmax, ha, ho, hk, hv⟩ := h'.msgs
  rw [marksM_length] at *
  unfold maxLen at hmax
  clear h h'
  go_enter Tryd.func41, Tryd.ntmps41
  go_wp2
  go_loop [1, 5] (fun kk i => ∃ j : Nat, j ≤ n ∧ i = .int .i64 j ∧ kk = .int .i64 (k + 3 * j)) (fun _ i => n - (intOf i).toNat)
  case atStart => exact ⟨0, Nat.zero_le _, rfl, by simp⟩
  case round =>
    obtain ⟨j, hj, rfl, rfl⟩ := hrel
    by_cases hlt : j < n
    · have hal := ha (by omega)
      subst hal
      have d0 : w.cell? ⟨b, off + j * 3, none⟩ = some (.int .i64 (k + 3 * j)) := by rw [ho j hlt, (marksM_at k n j hlt).1]
      have d1 : w.cell? ⟨b, off + j * 3 + 1, none⟩ = some (.int .i64 (k + 3 * j + 1)) := by rw [hk j hlt, (marksM_at k n j hlt).2.1]
      have d2 : w.cell? ⟨b, off + j * 3 + 2, none⟩ = some (.int .i64 (k + 3 * j + 1 + 1)) := by rw [hv j hlt, (marksM_at k n j hlt).2.2, show k + 3 * (j : Int) + 2 = k + 3 * (j : Int) + 1 + 1 by omega]
      clear ho hk hv
      have hb0 : 0 ≤ k + 3 * (j : Int) := by omega
      have hb1 : k + 3 * (j : Int) ≤ 100000000 := by omega
      go_wp2
      go_round
      case rel => exact ⟨j + 1, by omega, by go_num, by go_num⟩
      case measure => simp [intOf]; omega
    · have hjl : j = n := by omega
      subst hjl
      go_wp2
      go_ret
      exact ⟨rfl, rfl⟩

end Go.Proofs.YtckphbmlmjlipaaDoor

namespace Go.Proofs.YtckphbmlmjlipaaDoor
open Go.RowKit

theorem il_ext {l1 l2 : List Int} (hl : l1.length = l2.length) (h : ∀ i, i < l1.length → iAt l1 i = iAt l2 i) : l1 = l2 := by
  apply List.ext_getElem hl
  intro i h1 h2
  have := h i h1
  simpa [iAt, List.getD, h1, h2] using this

set_option maxHeartbeats 1000000 in
theorem eqIntS_any (v1 v2 : Value) (l1 l2 : List Int) (w : World) (h1 : Row w v1 l1.length (flatI l1)) (h2 : Row w v2 l2.length (flatI l2)) :
    Calls Tryd.prog 27 #[v1, v2] w fun e w' => e = .returned (.bool (decide (l1 = l2))) ∧ Below w.heap.size w w' := by
  obtain ⟨a, b, off, cap, rfl, hcap, hmax, ha, hk⟩ := h1.ints
  obtain ⟨a2, b2, off2, cap2, rfl, hcap2, hmax2, ha2, hk2⟩ := h2.ints
  unfold maxLen at hmax hmax2
  by_cases hl : l1.length = l2.length
  · have hne : ((l1.length : Int) != (l2.length : Int)) = false := by rw [bne_eq_false_iff_eq]; omega
    have HL : Hid (l1.length = l2.length) := hl
    have hl2 : l1.length ≤ l2.length := by omega
    clear hl
    go_enter Tryd.func27, Tryd.ntmps27
    go_wp2
    go_loopw [5] (fun i wr => ∃ k : Nat, k ≤ l1.length ∧ i = .int .i64 k ∧ Hid (∀ i, i < k → iAt l1 i = iAt l2 i) ∧ Below w.heap.size w wr)
      (fun i _ => l1.length - (intOf i).toNat)
    case atStart => exact ⟨0, Nat.zero_le _, rfl, fun i hi => absurd hi (Nat.not_lt_zero _), Below.refl _ _⟩
    case round =>
      obtain ⟨k, hkl, rfl, ALL, hb⟩ := hrel
      by_cases hlt : k < l1.length
      · have hal := ha (by omega)
        subst hal
        have hal2 := ha2 (by omega)
        subst hal2
        have hlt2 : k < l2.length := by omega
        have d0 := (hb.cell (by exact cell_lt (hk k hlt))).trans (hk k hlt)
        have d1 := (hb.cell (by exact cell_lt (hk2 k hlt2))).trans (hk2 k hlt2)
        clear hk ha hk2 ha2
        by_cases hq : iAt l1 k = iAt l2 k
        · have hq' : (iAt l1 k != iAt l2 k) = false := by rw [bne_eq_false_iff_eq]; exact hq
          have EQ : Hid (iAt l1 k = iAt l2 k) := hq
          clear hq
          go_wp2_with fail
          go_quiet (fail)
          go_wp2
          go_roundw
          case rel => exact ⟨k + 1, by omega, by go_num, fun i hi => if h : i < k then ALL.out i h else by rw [show i = k by omega]; exact EQ.out, below_drewN hb _⟩
          case measure => simp [intOf]; omega
        · have hq' : (iAt l1 k != iAt l2 k) = true := by rw [bne_iff_ne]; exact hq
          have NE : Hid (decide (l1 = l2) = false) := decide_eq_false (fun e => hq (by rw [e]))
          clear hq
          go_wp2_with fail
          go_quiet (fail)
          go_wp2
          go_ret
          exact ⟨ret_bool NE.out.symm, below_drewN hb _⟩
      · go_wp2
        go_ret
        refine ⟨ret_bool ?_, hb⟩
        symm
        rw [decide_eq_true_iff]
        exact il_ext HL.out (fun i hi => ALL.out i (by omega))
  · have hne : ((l1.length : Int) != (l2.length : Int)) = true := by rw [bne_iff_ne]; omega
    go_enter Tryd.func27, Tryd.ntmps27
    go_wp2
    go_ret
    refine ⟨ret_bool ?_, Below.refl _ _⟩
    symm
    rw [decide_eq_false_iff_not]
    intro h; exact hl (by rw [h])

/-- WHAT eqTree, eqTreeS SAY OF ONE TREE IN TWO PLACES. -/
def EqTree (n : Nat) : Prop := ∀ (x y : TV) (T : Tr) (w : World), TreeAt n w x T → TreeAt n w y T →
    Calls Tryd.prog 9 #[x.val, y.val] w fun e w' => e = .returned (.bool true) ∧ Below w.heap.size w w'
def EqTreeS (n : Nat) : Prop := ∀ (v u : Value) (ts : List Tr) (w : World), TreesAt n w v ts → TreesAt n w u ts →
    Calls Tryd.prog 28 #[v, u] w fun e w' => e = .returned (.bool true) ∧ Below w.heap.size w w'

set_option maxHeartbeats 2000000 in
theorem eqTreeS_of {n : Nat} (H : EqTree n) : EqTreeS n := by
  intro v u ts w hv hu
  obtain ⟨xs, hxl, hrow, hk⟩ := hv
  obtain ⟨ys, hyl, hrow2, hk2⟩ := hu
  obtain ⟨a, b, off, cap, rfl, hcap, hmax, ha, c0, c1, c2, c3, c4⟩ := hrow.trees
  obtain ⟨a2, b2, off2, cap2, rfl, hcap2, hmax2, ha2, g0, g1, g2, g3, g4⟩ := hrow2.trees
  unfold maxLen at hmax hmax2
  have hl2 : xs.length ≤ ys.length := by omega
  have hne : ((xs.length : Int) != (ys.length : Int)) = false := by rw [bne_eq_false_iff_eq]; omega
  clear hxl hyl
  go_enter Tryd.func28, Tryd.ntmps28
  go_wp2
  go_loopw [5] (fun i wr => ∃ k : Nat, k ≤ xs.length ∧ i = .int .i64 k ∧ Below w.heap.size w wr)
    (fun i _ => xs.length - (intOf i).toNat)
  case atStart => exact ⟨0, Nat.zero_le _, rfl, Below.refl _ _⟩
  case round =>
    obtain ⟨k, hkl, rfl, hb⟩ := hrel
    by_cases hlt : k < xs.length
    · have hal := ha (by omega)
      subst hal
      have hal2 := ha2 (by omega)
      subst hal2
      have hlt2 : k < ys.length := by omega
      have d0 := (hb.cell (by exact cell_lt (c0 k hlt))).trans (c0 k hlt)
      have d1 := (hb.cell (by exact cell_lt (c1 k hlt))).trans (c1 k hlt)
      have d2 := (hb.cell (by exact cell_lt (c2 k hlt))).trans (c2 k hlt)
      have d3 := (hb.cell (by exact cell_lt (c3 k hlt))).trans (c3 k hlt)
      have d4 := (hb.cell (by exact cell_lt (c4 k hlt))).trans (c4 k hlt)
      have e0 := (hb.cell (by exact cell_lt (g0 k hlt2))).trans (g0 k hlt2)
      have e1 := (hb.cell (by exact cell_lt (g1 k hlt2))).trans (g1 k hlt2)
      have e2 := (hb.cell (by exact cell_lt (g2 k hlt2))).trans (g2 k hlt2)
      have e3 := (hb.cell (by exact cell_lt (g3 k hlt2))).trans (g3 k hlt2)
      have e4 := (hb.cell (by exact cell_lt (g4 k hlt2))).trans (g4 k hlt2)
      have T0 : Hid (TreeAt n wr.drew (tvAt xs k) (ts.getD k noTr)) := (hk k hlt).below hb.drew
      have T1 : Hid (TreeAt n wr.drew (tvAt ys k) (ts.getD k noTr)) := (hk2 k hlt2).below hb.drew
      clear c0 c1 c2 c3 c4 hk hrow ha g0 g1 g2 g3 g4 hk2 hrow2 ha2
      go_wp2_with fail
      go_region_with (go_at_call 9; refine (H (tvAt xs k) (tvAt ys k) _ _ T0.out T1.out).mono ?_; rintro e w1 ⟨rfl, hb1⟩)
      all_goals
        go_wp2
        go_roundw
        case rel => exact ⟨k + 1, by omega, by go_num, hb.drew.trans (hb1.mono hb.size)⟩
        case measure => simp [intOf]; omega
    · clear c0 c1 c2 c3 c4 hk hrow ha g0 g1 g2 g3 g4 hk2 hrow2 ha2
      go_wp2
      go_ret
      exact ⟨rfl, hb⟩

/-- TWO BLOCKS, one behind the other. -/
structure TwoAt (u : World) (B : Nat) (A Z : Array Value) : Prop where
  h0 : u.heap[B]? = some (.cells A 32 (0, 0))
  h1 : u.heap[B + 1]? = some (.cells Z 32 (0, 0))
theorem TwoAt.step {u w' : World} {B : Nat} {A Z : Array Value} (h : TwoAt u B A Z) (hb : Below u.heap.size u w') : TwoAt w' B A Z := by
  have hs := (Array.getElem?_eq_some_iff.1 h.h1).1
  exact ⟨(hb.block _ (by omega)).trans h.h0, (hb.block _ (by omega)).trans h.h1⟩
theorem TwoAt.cells {u : World} {B : Nat} {A Z : Array Value} (h : TwoAt u B A Z) : (∀ j, u.cell? ⟨B, j, none⟩ = A[j]?) ∧ (∀ j, u.cell? ⟨B + 1, j, none⟩ = Z[j]?) :=
  ⟨fun j => cell_of_row u B j A 32 (0, 0) h.h0, fun j => cell_of_row u (B + 1) j Z 32 (0, 0) h.h1⟩
theorem TwoAt.start (w : World) (A Z : Array Value) : TwoAt ((w.alloc (.cells A 32)).alloc (.cells Z 32)) w.heap.size A Z := by
  have e : ∀ (x : World) (o : Obj), (x.alloc o).heap.size = x.heap.size + 1 := fun x o => by simp
  have k1 : ∀ (x : World) (o : Obj) (g : Nat), g < x.heap.size → (x.alloc o).heap[g]? = x.heap[g]? := fun x o g hg => ((Below.refl x.heap.size x).alloc (Nat.le_refl _) o).block g hg
  refine ⟨?_, ?_⟩
  · rw [k1 _ _ _ (by rw [e]; omega)]; exact heap_alloc_new w _
  · rw [← e w (.cells A 32)]; exact heap_alloc_new _ _

set_option maxHeartbeats 2000000 in
theorem eqTree_of {n : Nat} (H : EqTreeS n) : EqTree (n + 1) := by
  intro x y T w ht hu
  obtain ⟨lf, p, c, k, b⟩ := x
  obtain ⟨lf2, p2, c2, k2, b2⟩ := y
  obtain ⟨hlf, hp, hc, hb, hk⟩ := ht.parts
  obtain ⟨hlf2, hp2, hc2, hb2, hk2⟩ := hu.parts
  simp only at hlf hp hc hb hk hlf2 hp2 hc2 hb2 hk2
  subst hlf
  subst hlf2
  have R1 : Hid (Row w p T.pairs.length (flatP T.pairs)) := hp
  have R2 : Hid (Row w c T.cuts.length (flatI T.cuts)) := hc
  have R3 : Hid (TreesAt n w k T.kids) := hk
  have R4 : Hid (Row w b T.buf.length (flatM T.buf)) := hb
  have Q1 : Hid (Row w p2 T.pairs.length (flatP T.pairs)) := hp2
  have Q2 : Hid (Row w c2 T.cuts.length (flatI T.cuts)) := hc2
  have Q3 : Hid (TreesAt n w k2 T.kids) := hk2
  have Q4 : Hid (Row w b2 T.buf.length (flatM T.buf)) := hb2
  clear hp hc hb hk ht hp2 hc2 hb2 hk2 hu
  have hlf : (T.leaf != T.leaf) = false := by simp
  show Calls Tryd.prog 9 #[.agg #[.bool T.leaf, p, c, k, b], .agg #[.bool T.leaf, p2, c2, k2, b2]] w _
  have B0 : Hid (Below w.heap.size w ((w.alloc (.cells #[.bool T.leaf, p, c, k, b] 32)).alloc (.cells #[.bool T.leaf, p2, c2, k2, b2] 32))) := ((Below.refl _ _).alloc (Nat.le_refl _) _).alloc (by simp) _
  have S0 : Hid (TwoAt _ w.heap.size _ _) := TwoAt.start w #[.bool T.leaf, p, c, k, b] #[.bool T.leaf, p2, c2, k2, b2]
  go_enter Tryd.func9, Tryd.ntmps9
  go_wp2_with fail
  refine (eqPairS_any _ _ _ _ _ (R1.out.below B0.out) (Q1.out.below B0.out)).mono ?_
  rintro e w1 ⟨he, hb1⟩
  rw [decide_eq_true rfl] at he
  subst he
  have B1 : Hid (Below w.heap.size w w1) := Below.and B0.out hb1
  have S1 : Hid (TwoAt w1 w.heap.size #[.bool T.leaf, p, c, k, b] #[.bool T.leaf, p2, c2, k2, b2]) := S0.out.step hb1
  obtain ⟨k0, k1⟩ := S1.out.cells
  clear B0 S0 hb1
  go_wp2_with fail
  refine (eqIntS_any _ _ _ _ _ (R2.out.below B1.out) (Q2.out.below B1.out)).mono ?_
  rintro e w2 ⟨he, hb2⟩
  rw [decide_eq_true rfl] at he
  subst he
  have B2 : Hid (Below w.heap.size w w2) := Below.and B1.out hb2
  have S2 : Hid (TwoAt w2 w.heap.size #[.bool T.leaf, p, c, k, b] #[.bool T.leaf, p2, c2, k2, b2]) := S1.out.step hb2
  clear B1 S1 hb2 k0 k1
  obtain ⟨k0, k1⟩ := S2.out.cells
  go_wp2_with fail
  refine (H _ _ T.kids _ (R3.out.below B2.out) (Q3.out.below B2.out)).mono ?_
  rintro e w3 ⟨rfl, hb3⟩
  have B3 : Hid (Below w.heap.size w w3) := Below.and B2.out hb3
  have S3 : Hid (TwoAt w3 w.heap.size #[.bool T.leaf, p, c, k, b] #[.bool T.leaf, p2, c2, k2, b2]) := S2.out.step hb3
  clear B2 S2 hb3 k0 k1
  obtain ⟨k0, k1⟩ := S3.out.cells
  go_wp2_with fail
  refine (eqMsgS_any _ _ _ _ _ (R4.out.below B3.out) (Q4.out.below B3.out)).mono ?_
  rintro e w4 ⟨he, hb4⟩
  rw [decide_eq_true rfl] at he
  subst he
  have B4 : Hid (Below w.heap.size w w4) := Below.and B3.out hb4
  clear B3 S3 hb4 k0 k1
  go_wp2
  go_ret
  exact ⟨rfl, B4.out⟩

theorem eqTree_any : ∀ n, EqTree n
  | 0 => fun _ _ _ _ h => h.elim
  | n + 1 => eqTree_of (eqTreeS_of (eqTree_any n))

end Go.Proofs.YtckphbmlmjlipaaDoor

namespace Go.Proofs.YtckphbmlmjlipaaDoor
open Go.RowKit

def marksI (k : Int) (n : Nat) : List Int := (List.range n).map fun (i : Nat) => k + i
theorem marksI_length (k : Int) (n : Nat) : (marksI k n).length = n := by simp [marksI]
theorem marksI_succ (k : Int) (n : Nat) : marksI k (n + 1) = marksI k n ++ [k + n] := by simp [marksI, List.range_succ]
theorem marksI_at (k : Int) (n i : Nat) (h : i < n) : iAt (marksI k n) i = k + i := by simp [marksI, iAt, List.getD, h]
def midI (k : Int) (l : List Int) (i : Nat) : List Int := marksI k i ++ l.drop i
theorem midI_length (k : Int) (l : List Int) (i : Nat) (h : i ≤ l.length) : (midI k l i).length = l.length := by simp [midI, marksI_length]; omega
theorem midI_zero (k : Int) (l : List Int) : midI k l 0 = l := by simp [midI, marksI]
theorem midI_full (k : Int) (l : List Int) : midI k l l.length = marksI k l.length := by simp [midI]
theorem midI_step (k : Int) (l : List Int) (i : Nat) (h : i < l.length) : (midI k l i).set i (k + i) = midI k l (i + 1) := by
  rw [midI, midI, marksI_succ, List.drop_eq_getElem_cons h, List.set_append_right _ _ (by rw [marksI_length]; omega), marksI_length, Nat.sub_self, List.set_cons_zero]
  simp
theorem flatI_setI (l : List Int) (s : Int) (i : Nat) : (flatI l).set i (.int .i64 s) = flatI (l.set i s) := by simp [flatI, List.map_set]
theorem flatI_atI (l : List Int) (i : Nat) (h : i < l.length) : (flatI l)[i]? = some (.int .i64 (iAt l i)) := by simp [flatI, iAt, List.getD, h]

set_option maxHeartbeats 1000000 in
theorem markIntS_s (v : Value) (l : List Int) (k : Int) (w : World) (h : w.ownsRow 0 3 1 v l.length (flatI l)) (hn : l.length ≤ 4194304) (hk0 : 0 ≤ k) (hk1 : k ≤ 4194304) :
    Calls Tryd.prog 35 #[v, .int .i64 k] w fun e w' => e = .returned (.int .i64 (k + l.length)) ∧ w'.ownsRow 0 3 1 v l.length (flatI (marksI k l.length)) ∧ Chg (fun g => v.ownBlock = some g) w w' := by
  obtain ⟨a, cap, hv⟩ := owns_val h
  have hcap : cap ≤ maxLen := by
    obtain ⟨_, ⟨e, _⟩ | ⟨g, cap', cur, e, _, _, _, hc, _⟩⟩ := h
    · rw [hv] at e; simp at e; rw [e.2.2]; exact Nat.zero_le _
    · rw [hv] at e; simp at e; rw [e.2]; exact hc
  unfold maxLen at hcap
  have OW : Hid (w.ownsRow 0 3 1 v l.length (flatI l)) := h
  clear h
  rw [hv] at OW ⊢
  clear hv
  go_enter Tryd.func35, Tryd.ntmps35
  go_wp2
  go_loopw [1, 5] (fun kk i wr => ∃ j : Nat, j ≤ l.length ∧ i = .int .i64 j ∧ kk = .int .i64 (k + j) ∧ wr.ownsRow 0 3 1 (.slice a l.length cap) l.length (flatI (midI k l j)) ∧ Chg (fun g => (Value.slice a l.length cap).ownBlock = some g) w wr)
    (fun _ i _ => l.length - (intOf i).toNat)
  case atStart => exact ⟨0, Nat.zero_le _, rfl, by simp, by rw [midI_zero]; exact OW.out, Chg.refl _ _⟩
  case round =>
    obtain ⟨j, hj, rfl, rfl, hown, hch⟩ := hrel
    by_cases hlt : j < l.length
    · have hex : ∃ g, a = some ⟨g, 0, none⟩ := by
        obtain ⟨_, ⟨e, e2⟩ | ⟨g, cap', cur, e, _⟩⟩ := hown
        · omega
        · simp at e; exact ⟨g, e.1⟩
      obtain ⟨g, rfl⟩ := hex
      have hml : (midI k l j).length = l.length := midI_length k l j hj
      have hat := flatI_atI (midI k l j) j (by omega)
      have e0 := (hown.cellAt j (by omega)).trans hat
      have f0 := hown.frozenAt j
      have st := (hown.stored j (.int .i64 (k + j))).1
      rw [flatI_setI, midI_step k l j hlt] at st
      have hch2 : Chg (fun g' => (Value.slice (some ⟨g, 0, none⟩) l.length cap).ownBlock = some g') w (wr.setCell ⟨g, j, none⟩ (.int .i64 (k + j))) := hch.setAt g _ rfl _
      generalize iAt (midI k l j) j = x0 at *
      have ST : Hid _ := And.intro st hch2
      clear st hch2 hown hch hml hat OW
      have hb0 : 0 ≤ k + (j : Int) := by omega
      have hb1 : k + (j : Int) ≤ 100000000 := by omega
      go_wp2
      go_roundw
      case rel => exact ⟨j + 1, by omega, by go_num, by go_num, ST.out.1, ST.out.2⟩
      case measure => simp [intOf]; omega
    · have hjl : j = l.length := by omega
      subst hjl
      go_wp2
      go_ret
      rw [midI_full] at hown
      exact ⟨rfl, hown, hch⟩

set_option maxHeartbeats 1000000 in
theorem heldIntS_s (v : Value) (n : Nat) (k : Int) (w : World) (h : Row w v n (flatI (marksI k n))) (hn : n ≤ 4194304) (hk0 : 0 ≤ k) (hk1 : k ≤ 4194304) :
    Calls Tryd.prog 39 #[v, .int .i64 k] w fun e w' => e = .returned (.int .i64 (k + n)) ∧ w' = w := by
  have h' : Row w v (marksI k n).length (flatI (marksI k n)) := by rw [marksI_length]; exact h
  obtain ⟨a, b, off, cap, rfl, hcap, hmax, ha, hk⟩ := h'.ints
  rw [marksI_length] at *
  unfold maxLen at hmax
  clear h h'
  go_enter Tryd.func39, Tryd.ntmps39
  go_wp2
  go_loop [1, 5] (fun kk i => ∃ j : Nat, j ≤ n ∧ i = .int .i64 j ∧ kk = .int .i64 (k + j)) (fun _ i => n - (intOf i).toNat)
  case atStart => exact ⟨0, Nat.zero_le _, rfl, by simp⟩
  case round =>
    obtain ⟨j, hj, rfl, rfl⟩ := hrel
    by_cases hlt : j < n
    · have hal := ha (by omega)
      subst hal
      have d0 : w.cell? ⟨b, off + j, none⟩ = some (.int .i64 (k + j)) := by rw [hk j hlt, marksI_at k n j hlt]
      clear hk
      have hb0 : 0 ≤ k + (j : Int) := by omega
      have hb1 : k + (j : Int) ≤ 100000000 := by omega
      go_wp2
      go_round
      case rel => exact ⟨j + 1, by omega, by go_num, by go_num⟩
      case measure => simp [intOf]; omega
    · have hjl : j = n := by omega
      subst hjl
      go_wp2
      go_ret
      exact ⟨rfl, rfl⟩

set_option maxHeartbeats 400000 in
theorem markPairS_nil (a : Option Addr) (q : Nat) (k : Int) (w : World) : Calls Tryd.prog 34 #[.slice a 0 q, .int .i64 k] w fun e w' => e = .returned (.int .i64 k) ∧ w' = w := by
  go_enter Tryd.func34, Tryd.ntmps34
  go_wp2
  go_loop [1, 5] (fun kk i => kk = .int .i64 k ∧ i = .int .i64 0) (fun _ _ => 0)
  case atStart => exact ⟨rfl, rfl⟩
  case round =>
    obtain ⟨rfl, rfl⟩ := hrel
    go_wp2
    go_ret
    exact ⟨rfl, rfl⟩
set_option maxHeartbeats 400000 in
theorem heldPairS_nil (a : Option Addr) (q : Nat) (k : Int) (w : World) : Calls Tryd.prog 38 #[.slice a 0 q, .int .i64 k] w fun e w' => e = .returned (.int .i64 k) ∧ w' = w := by
  go_enter Tryd.func38, Tryd.ntmps38
  go_wp2
  go_loop [1, 5] (fun kk i => kk = .int .i64 k ∧ i = .int .i64 0) (fun _ _ => 0)
  case atStart => exact ⟨rfl, rfl⟩
  case round =>
    obtain ⟨rfl, rfl⟩ := hrel
    go_wp2
    go_ret
    exact ⟨rfl, rfl⟩
set_option maxHeartbeats 400000 in
theorem markIntS_nil (a : Option Addr) (q : Nat) (k : Int) (w : World) : Calls Tryd.prog 35 #[.slice a 0 q, .int .i64 k] w fun e w' => e = .returned (.int .i64 k) ∧ w' = w := by
  go_enter Tryd.func35, Tryd.ntmps35
  go_wp2
  go_loop [1, 5] (fun kk i => kk = .int .i64 k ∧ i = .int .i64 0) (fun _ _ => 0)
  case atStart => exact ⟨rfl, rfl⟩
  case round =>
    obtain ⟨rfl, rfl⟩ := hrel
    go_wp2
    go_ret
    exact ⟨rfl, rfl⟩
set_option maxHeartbeats 400000 in
theorem heldIntS_nil (a : Option Addr) (q : Nat) (k : Int) (w : World) : Calls Tryd.prog 39 #[.slice a 0 q, .int .i64 k] w fun e w' => e = .returned (.int .i64 k) ∧ w' = w := by
  go_enter Tryd.func39, Tryd.ntmps39
  go_wp2
  go_loop [1, 5] (fun kk i => kk = .int .i64 k ∧ i = .int .i64 0) (fun _ _ => 0)
  case atStart => exact ⟨rfl, rfl⟩
  case round =>
    obtain ⟨rfl, rfl⟩ := hrel
    go_wp2
    go_ret
    exact ⟨rfl, rfl⟩
set_option maxHeartbeats 400000 in
theorem markMsgS_nil (a : Option Addr) (q : Nat) (k : Int) (w : World) : Calls Tryd.prog 37 #[.slice a 0 q, .int .i64 k] w fun e w' => e = .returned (.int .i64 k) ∧ w' = w := by
  go_enter Tryd.func37, Tryd.ntmps37
  go_wp2
  go_loop [1, 5] (fun kk i => kk = .int .i64 k ∧ i = .int .i64 0) (fun _ _ => 0)
  case atStart => exact ⟨rfl, rfl⟩
  case round =>
    obtain ⟨rfl, rfl⟩ := hrel
    go_wp2
    go_ret
    exact ⟨rfl, rfl⟩
set_option maxHeartbeats 400000 in
theorem heldMsgS_nil (a : Option Addr) (q : Nat) (k : Int) (w : World) : Calls Tryd.prog 41 #[.slice a 0 q, .int .i64 k] w fun e w' => e = .returned (.int .i64 k) ∧ w' = w := by
  go_enter Tryd.func41, Tryd.ntmps41
  go_wp2
  go_loop [1, 5] (fun kk i => kk = .int .i64 k ∧ i = .int .i64 0) (fun _ _ => 0)
  case atStart => exact ⟨rfl, rfl⟩
  case round =>
    obtain ⟨rfl, rfl⟩ := hrel
    go_wp2
    go_ret
    exact ⟨rfl, rfl⟩
set_option maxHeartbeats 400000 in
theorem markTreeS_nil (a : Option Addr) (q : Nat) (k : Int) (w : World) : Calls Tryd.prog 36 #[.slice a 0 q, .int .i64 k] w fun e w' => e = .returned (.int .i64 k) ∧ w' = w := by
  go_enter Tryd.func36, Tryd.ntmps36
  go_wp2
  go_loop [1, 5] (fun kk i => kk = .int .i64 k ∧ i = .int .i64 0) (fun _ _ => 0)
  case atStart => exact ⟨rfl, rfl⟩
  case round =>
    obtain ⟨rfl, rfl⟩ := hrel
    go_wp2
    go_ret
    exact ⟨rfl, rfl⟩
set_option maxHeartbeats 400000 in
theorem heldTreeS_nil (a : Option Addr) (q : Nat) (k : Int) (w : World) : Calls Tryd.prog 40 #[.slice a 0 q, .int .i64 k] w fun e w' => e = .returned (.int .i64 k) ∧ w' = w := by
  go_enter Tryd.func40, Tryd.ntmps40
  go_wp2
  go_loop [1, 5] (fun kk i => kk = .int .i64 k ∧ i = .int .i64 0) (fun _ _ => 0)
  case atStart => exact ⟨rfl, rfl⟩
  case round =>
    obtain ⟨rfl, rfl⟩ := hrel
    go_wp2
    go_ret
    exact ⟨rfl, rfl⟩

end Go.Proofs.YtckphbmlmjlipaaDoor

namespace Go.Proofs.YtckphbmlmjlipaaDoor
open Go.RowKit

/-- the kids, marked from k on -/
def marksK (k : Int) (n : Nat) : List TV := (List.range n).map fun (i : Nat) => ⟨(k + i) % 3 == 0, .slice none 0 0, .slice none 0 0, .slice none 0 0, .slice none 0 0⟩
def zeroTV : TV := ⟨false, .slice none 0 0, .slice none 0 0, .slice none 0 0, .slice none 0 0⟩
theorem marksK_length (k : Int) (n : Nat) : (marksK k n).length = n := by simp [marksK]
theorem marksK_succ (k : Int) (n : Nat) : marksK k (n + 1) = marksK k n ++ [⟨(k + n) % 3 == 0, .slice none 0 0, .slice none 0 0, .slice none 0 0, .slice none 0 0⟩] := by simp [marksK, List.range_succ]
def midK (k : Int) (n j : Nat) : List TV := marksK k j ++ List.replicate (n - j) zeroTV
theorem midK_length (k : Int) (n j : Nat) (h : j ≤ n) : (midK k n j).length = n := by simp [midK, marksK_length]; omega
theorem midK_zero (k : Int) (n : Nat) : midK k n 0 = List.replicate n zeroTV := by simp [midK, marksK]
theorem midK_full (k : Int) (n : Nat) : midK k n n = marksK k n := by simp [midK]
theorem midK_at (k : Int) (n j : Nat) (h : j < n) : tvAt (midK k n j) j = zeroTV := by
  have : (midK k n j)[j]? = some zeroTV := by
    rw [midK, List.getElem?_append_right (by rw [marksK_length]; omega), marksK_length, Nat.sub_self, List.getElem?_replicate_of_lt (by omega)]
  simp [tvAt, List.getD, this]
theorem midK_step (k : Int) (n j : Nat) (h : j < n) : (midK k n j).set j ⟨(k + j) % 3 == 0, .slice none 0 0, .slice none 0 0, .slice none 0 0, .slice none 0 0⟩ = midK k n (j + 1) := by
  obtain ⟨m, hm⟩ : ∃ m, n - j = m + 1 := ⟨n - j - 1, by omega⟩
  rw [midK, midK, marksK_succ, hm, show n - (j + 1) = m by omega, List.replicate_succ, List.set_append_right _ _ (by rw [marksK_length]; omega), marksK_length, Nat.sub_self, List.set_cons_zero, List.append_assoc, List.singleton_append]
theorem marksK_at (k : Int) (n i : Nat) (h : i < n) : tvAt (marksK k n) i = ⟨(k + i) % 3 == 0, .slice none 0 0, .slice none 0 0, .slice none 0 0, .slice none 0 0⟩ := by simp [marksK, tvAt, List.getD, h]
/-- one flag of a row of trees is set -/
theorem flatT_flag (l : List TV) (b : Bool) : ∀ i, i < l.length → (flatT l).set (i * 5) (.bool b) = flatT (l.set i ⟨b, (tvAt l i).p, (tvAt l i).c, (tvAt l i).k, (tvAt l i).b⟩) := by
  induction l with
  | nil => intro i h; simp at h
  | cons p l ih =>
    intro i h
    cases i with
    | zero => simp [flatT_cons, tvAt]
    | succ i =>
      have := ih i (by simpa using h)
      rw [flatT_cons, List.set_cons_succ, flatT_cons, show (i + 1) * 5 = i * 5 + 1 + 1 + 1 + 1 + 1 by omega]
      simp only [List.set_cons_succ, this]
      simp [tvAt]

set_option maxRecDepth 100000 in
set_option maxHeartbeats 2000000 in
theorem markTreeS_z (M n : Nat) (k : Int) (w : World) (h : w.ownsRow 0 32 5 (.slice (some ⟨M, 0, none⟩) n n) n (flatT (List.replicate n zeroTV))) (hn : n ≤ 10) (hk0 : 0 ≤ k) (hk1 : k ≤ 4194304) :
    Calls Tryd.prog 36 #[.slice (some ⟨M, 0, none⟩) n n, .int .i64 k] w fun e w' => e = .returned (.int .i64 (k + n)) ∧ w'.ownsRow 0 32 5 (.slice (some ⟨M, 0, none⟩) n n) n (flatT (marksK k n)) ∧ Chg (fun g => g = M) w w' := by
  have OW : Hid _ := h
  clear h
  go_enter Tryd.func36, Tryd.ntmps36
  go_wp2
  go_loopw [1, 5] (fun kk i wr => ∃ j : Nat, j ≤ n ∧ i = .int .i64 j ∧ kk = .int .i64 (k + j) ∧ Hid (wr.ownsRow 0 32 5 (.slice (some ⟨M, 0, none⟩) n n) n (flatT (midK k n j)) ∧ Chg (fun g => g = M) w wr)) (fun _ i _ => n - (intOf i).toNat)
  case atStart => exact ⟨0, Nat.zero_le _, rfl, by simp, by rw [midK_zero]; exact OW.out, Chg.refl _ _⟩
  case round =>
    obtain ⟨j, hj, rfl, rfl, hI⟩ := hrel
    obtain ⟨hown, hch⟩ := hI.out
    clear OW hI
    by_cases hlt : j < n
    · have hml := midK_length k n j hj
      have hat := flatT_at (midK k n j) j (by omega)
      rw [midK_at k n j hlt] at hat
      simp only [zeroTV] at hat
      have e0 := (hown.cellAt (j * 5) (by omega)).trans hat.1
      have f0 := hown.frozenAt (j * 5)
      have st := (hown.stored (j * 5) (.bool ((k + j) % 3 == 0))).1
      rw [flatT_flag _ _ j (by omega), midK_at k n j hlt] at st
      simp only [zeroTV] at st
      rw [midK_step k n j hlt] at st
      have hch2 : Chg (fun g => g = M) w (wr.setCell ⟨M, j * 5, none⟩ (.bool ((k + j) % 3 == 0))) := hch.setAt M _ rfl _
      have c1 := (hown.cellAt (j * 5 + 1) (by omega)).trans hat.2.1
      have c2 := (hown.cellAt (j * 5 + 2) (by omega)).trans hat.2.2.1
      have c3 := (hown.cellAt (j * 5 + 3) (by omega)).trans hat.2.2.2.1
      have c4 := (hown.cellAt (j * 5 + 4) (by omega)).trans hat.2.2.2.2
      have ST : Hid _ := And.intro st hch2
      clear st hch2 hown hch hml hat
      have hb0 : 0 ≤ k + (j : Int) := by omega
      have hb1 : k + (j : Int) ≤ 100000000 := by omega
      go_wp2_with fail
      refine (markPairS_nil none 0 (k + j + 1) _).mono ?_
      rintro e u1 ⟨rfl, hu⟩
      subst hu
      go_wp2_with fail
      refine (markIntS_nil none 0 (k + j + 1) _).mono ?_
      rintro e u1 ⟨rfl, hu⟩
      subst hu
      go_wp2_with fail
      refine (markTreeS_nil none 0 (k + j + 1) _).mono ?_
      rintro e u1 ⟨rfl, hu⟩
      subst hu
      go_wp2_with fail
      refine (markMsgS_nil none 0 (k + j + 1) _).mono ?_
      rintro e u1 ⟨rfl, hu⟩
      subst hu
      go_wp2
      go_roundw
      case rel => exact ⟨j + 1, by omega, by go_num, by go_num, ST.out⟩
      case measure => simp [intOf]; omega
    · have hjl : j = n := by omega
      subst hjl
      go_wp2
      go_ret
      rw [midK_full] at hown
      exact ⟨rfl, hown, hch⟩

set_option maxRecDepth 100000 in
set_option maxHeartbeats 2000000 in
theorem heldTreeS_z (v : Value) (n : Nat) (k : Int) (w : World) (h : Row w v n (flatT (marksK k n))) (hn : n ≤ 10) (hk0 : 0 ≤ k) (hk1 : k ≤ 4194304) :
    Calls Tryd.prog 40 #[v, .int .i64 k] w fun e w' => e = .returned (.int .i64 (k + n)) ∧ w' = w := by
  have h' : Row w v (marksK k n).length (flatT (marksK k n)) := by rw [marksK_length]; exact h
  obtain ⟨a, b, off, cap, rfl, hcap, hmax, ha, q0, q1, q2, q3, q4⟩ := h'.trees
  rw [marksK_length] at *
  unfold maxLen at hmax
  clear h h'
  go_enter Tryd.func40, Tryd.ntmps40
  go_wp2
  go_loop [1, 5] (fun kk i => ∃ j : Nat, j ≤ n ∧ i = .int .i64 j ∧ kk = .int .i64 (k + j)) (fun _ i => n - (intOf i).toNat)
  case atStart => exact ⟨0, Nat.zero_le _, rfl, by simp⟩
  case round =>
    obtain ⟨j, hj, rfl, rfl⟩ := hrel
    by_cases hlt : j < n
    · have hal := ha (by omega)
      subst hal
      have c0 := q0 j hlt
      have c1 := q1 j hlt
      have c2 := q2 j hlt
      have c3 := q3 j hlt
      have c4 := q4 j hlt
      rw [marksK_at k n j hlt] at c0 c1 c2 c3 c4
      simp only at c0 c1 c2 c3 c4
      clear q0 q1 q2 q3 q4
      have hb0 : 0 ≤ k + (j : Int) := by omega
      have hb1 : k + (j : Int) ≤ 100000000 := by omega
      have hbs : (((k + (j : Int)) % 3 == 0) != ((k + (j : Int)) % 3 == 0)) = false := by simp
      go_wp2_with fail
      refine (heldPairS_nil none 0 (k + j + 1) _).mono ?_
      rintro e u1 ⟨rfl, hu⟩
      subst hu
      go_wp2_with fail
      refine (heldIntS_nil none 0 (k + j + 1) _).mono ?_
      rintro e u1 ⟨rfl, hu⟩
      subst hu
      go_wp2_with fail
      refine (heldTreeS_nil none 0 (k + j + 1) _).mono ?_
      rintro e u1 ⟨rfl, hu⟩
      subst hu
      go_wp2_with fail
      refine (heldMsgS_nil none 0 (k + j + 1) _).mono ?_
      rintro e u1 ⟨rfl, hu⟩
      subst hu
      go_wp2
      go_round
      case rel => exact ⟨j + 1, by omega, by go_num, by go_num⟩
      case measure => simp [intOf]; omega
    · have hjl : j = n := by omega
      subst hjl
      go_wp2
      go_ret
      exact ⟨rfl, rfl⟩

end Go.Proofs.YtckphbmlmjlipaaDoor

namespace Go.Proofs.YtckphbmlmjlipaaDoor
open Go.RowKit

def treeG : Option NodeV → Tr
  | none => ⟨false, [], [], [], []⟩
  | some n => treeV n
def kidsG : Option NodeV → List Int
  | none => []
  | some n => kidsV n
/-- the program's answer, in memory of its own -/
def AnsV (base : Nat) (w : World) (vt vk : Value) : Option NodeV → Prop
  | none => vt = treeZ ∧ vk = .slice none 0 0
  | some n => NodeAt base w vt vk n ∧ okV n
theorem AnsV.below {base : Nat} {w w' : World} {vt vk : Value} {g : Option NodeV} (h : AnsV base w vt vk g) (hb : Below w.heap.size w w') : AnsV base w' vt vk g := by
  cases g with
  | none => exact h
  | some n => exact ⟨h.1.chg (Chg.of_below (F := fun _ => False) hb) (fun _ h => h.elim), h.2⟩
theorem AnsV.chg {F : Nat → Prop} {base : Nat} {w w' : World} {vt vk : Value} {g : Option NodeV} (h : AnsV base w vt vk g) (hc : Chg F w w') (hF : ∀ g, F g → g < base) : AnsV base w' vt vk g := by
  cases g with
  | none => exact h
  | some n => exact ⟨h.1.chg hc hF, h.2⟩
theorem made_trees (n : Nat) : (madeCells #[.bool false, .slice none 0 0, .slice none 0 0, .slice none 0 0, .slice none 0 0] (n * 5)).toList = flatT (List.replicate n zeroTV) := by
  apply List.ext_getElem?
  intro j
  by_cases hj : j < n * 5
  · have hi : j / 5 < (List.replicate n zeroTV).length := by simp; omega
    have hat := flatT_at (List.replicate n zeroTV) (j / 5) hi
    have hz : tvAt (List.replicate n zeroTV) (j / 5) = zeroTV := by simp [tvAt, List.getD, show j / 5 < n by omega]
    rw [hz] at hat
    simp only [zeroTV] at hat
    have hc : (madeCells #[.bool false, .slice none 0 0, .slice none 0 0, .slice none 0 0, .slice none 0 0] (n * 5)).toList[j]? = some ((#[.bool false, .slice none 0 0, .slice none 0 0, .slice none 0 0, .slice none 0 0] : Array Value)[j % 5]!) := by simp [madeCells, hj]
    rw [hc]
    rcases (show j % 5 = 0 ∨ j % 5 = 1 ∨ j % 5 = 2 ∨ j % 5 = 3 ∨ j % 5 = 4 by omega) with h | h | h | h | h
    · rw [h, ← (show j / 5 * 5 = j by omega)]; exact hat.1.symm
    · rw [h, ← (show j / 5 * 5 + 1 = j by omega)]; exact hat.2.1.symm
    · rw [h, ← (show j / 5 * 5 + 2 = j by omega)]; exact hat.2.2.1.symm
    · rw [h, ← (show j / 5 * 5 + 3 = j by omega)]; exact hat.2.2.2.1.symm
    · rw [h, ← (show j / 5 * 5 + 4 = j by omega)]; exact hat.2.2.2.2.symm
  · rw [List.getElem?_eq_none (by simp [madeCells]; omega), List.getElem?_eq_none (by rw [flatT_length]; simp; omega)]
theorem kids_own {w : World} {M n : Nat} (h : w.heap[M]? = some (.cells (madeCells #[.bool false, .slice none 0 0, .slice none 0 0, .slice none 0 0, .slice none 0 0] (n * 5)) 32 (0, 0))) (hn : n ≤ 10) : w.ownsRow M 32 5 (.slice (some ⟨M, 0, none⟩) n n) n (flatT (List.replicate n zeroTV)) := by
  refine ⟨by rw [flatT_length]; simp, .inr ⟨M, n, _, rfl, Nat.le_refl _, h, Nat.le_refl _, by unfold maxLen; omega, by simp [madeCells], ?_⟩⟩
  rw [made_trees, List.take_of_length_le (by rw [flatT_length]; simp)]
theorem rowZ (w : World) : Row w (.slice none 0 0) 0 [] := ⟨none, 0, 0, 0, rfl, Nat.le_refl _, Nat.zero_le _, fun h => absurd h (Nat.lt_irrefl _), fun j u hj => by simp at hj, fun _ => rfl⟩
/-- the answer is that tree, and those numbers -/
theorem AnsV.tree {base : Nat} {w : World} {vt vk : Value} {g : Option NodeV} (h : AnsV base w vt vk g) : (∃ x : TV, vt = x.val ∧ TreeAt 2 w x (treeG g)) ∧ Row w vk (kidsG g).length (flatI (kidsG g)) := by
  have rn := rowZ w
  cases g with
  | none =>
    obtain ⟨rfl, rfl⟩ := h
    exact ⟨⟨⟨false, .slice none 0 0, .slice none 0 0, .slice none 0 0, .slice none 0 0⟩, rfl, TreeAt.mk rfl rn rn rn ⟨[], rfl, rn, fun i hi => absurd hi (Nat.not_lt_zero _)⟩⟩, rn⟩
  | some nv =>
    obtain ⟨h, hok⟩ := h
    cases nv with
    | inl l =>
      obtain ⟨vp, rfl, rfl, o⟩ := h
      exact ⟨⟨⟨true, vp, .slice none 0 0, .slice none 0 0, .slice none 0 0⟩, rfl, TreeAt.mk rfl o.row' rn rn ⟨[], rfl, rn, fun i hi => absurd hi (Nat.not_lt_zero _)⟩⟩, rn⟩
    | inr f =>
      obtain ⟨vc, vb, M, N, rfl, h2, h3, h4, h5, h6, h7, h8⟩ := h
      have ok := kids_own h8 (by have := hok.2.1; omega)
      refine ⟨⟨⟨false, .slice none 0 0, vc, .slice (some ⟨M, 0, none⟩) f.kids.length f.kids.length, vb⟩, rfl, TreeAt.mk rfl rn (Row.of_owns h5) h6.row' ⟨List.replicate f.kids.length zeroTV, by simp [treeG, treeV], ?_, ?_⟩⟩, Row.of_owns h3⟩
      · rw [List.length_replicate]; exact Row.of_owns ok
      · intro i hi
        rw [List.length_replicate] at hi
        have e1 : tvAt (List.replicate f.kids.length zeroTV) i = zeroTV := by simp [tvAt, List.getD, hi]
        have e2 : (treeG (some (.inr f))).kids.getD i noTr = ⟨false, [], [], [], []⟩ := by simp [treeG, treeV, List.getD, hi]
        rw [e1, e2]
        exact TreeAt.mk rfl rn rn rn ⟨[], rfl, rn, fun i hi => absurd hi (Nat.not_lt_zero _)⟩
/-- how many marks the tree takes, and the numbers -/
def mtN : Option NodeV → Int
  | none => 0
  | some (.inl l) => 2 * l.length
  | some (.inr f) => f.cuts.length + f.kids.length + 3 * f.buf.length
def AnsT (base : Nat) (w : World) (vt vk : Value) : Option NodeV → Prop
  | none => vt = treeZ ∧ vk = .slice none 0 0
  | some (.inl l) => ∃ vp, vt = .agg #[.bool true, vp, .slice none 0 0, .slice none 0 0, .slice none 0 0] ∧ vk = .slice none 0 0 ∧ Row w vp l.length (flatP (marksP 1 l.length)) ∧ l.length ≤ 10
  | some (.inr f) => ∃ (vc vb : Value) (M N : Nat), vt = .agg #[.bool false, .slice none 0 0, vc, .slice (some ⟨M, 0, none⟩) f.kids.length f.kids.length, vb] ∧ (f.kids.length ≤ 10 ∧ f.cuts.length ≤ 10 ∧ f.buf.length ≤ 10) ∧ base ≤ N ∧
      OwnI base w vk f.kids ∧ (∀ g, vk.ownBlock = some g → g < N) ∧ OwnI N w vc (marksI 1 f.cuts.length) ∧ OwnE w N 83 3 vb f.buf.length (flatM (marksM (1 + f.cuts.length + f.kids.length) f.buf.length)) ∧ w.ownsRow N 32 5 (.slice (some ⟨M, 0, none⟩) f.kids.length f.kids.length) f.kids.length (flatT (marksK (1 + f.cuts.length) f.kids.length))
def AnsM (w : World) (vt vk : Value) : Option NodeV → Prop
  | none => vt = treeZ ∧ vk = .slice none 0 0
  | some (.inl l) => ∃ vp, vt = .agg #[.bool true, vp, .slice none 0 0, .slice none 0 0, .slice none 0 0] ∧ vk = .slice none 0 0 ∧ Row w vp l.length (flatP (marksP 1 l.length)) ∧ l.length ≤ 10
  | some (.inr f) => ∃ (vc vb vm : Value), vt = .agg #[.bool false, .slice none 0 0, vc, vm, vb] ∧ (f.kids.length ≤ 10 ∧ f.cuts.length ≤ 10 ∧ f.buf.length ≤ 10) ∧
      Row w vk f.kids.length (flatI (marksI (1 + f.cuts.length + f.kids.length + 3 * f.buf.length) f.kids.length)) ∧ Row w vc f.cuts.length (flatI (marksI 1 f.cuts.length)) ∧ Row w vb f.buf.length (flatM (marksM (1 + f.cuts.length + f.kids.length) f.buf.length)) ∧ Row w vm f.kids.length (flatT (marksK (1 + f.cuts.length) f.kids.length))
theorem AnsM.below {w w' : World} {vt vk : Value} {g : Option NodeV} (h : AnsM w vt vk g) (hb : Below w.heap.size w w') : AnsM w' vt vk g := by
  cases g with
  | none => exact h
  | some nv => cases nv with
    | inl l =>
      obtain ⟨vp, h1, h2, h3, h4⟩ := h
      exact ⟨vp, h1, h2, h3.below hb, h4⟩
    | inr f =>
      obtain ⟨vc, vb, vm, h1, h2, h3, h4, h5, h6⟩ := h
      exact ⟨vc, vb, vm, h1, h2, h3.below hb, h4.below hb, h5.below hb, h6.below hb⟩

end Go.Proofs.YtckphbmlmjlipaaDoor

namespace Go.Proofs.YtckphbmlmjlipaaDoor
open Go.RowKit

/-- a row of messages of its own, or an empty one, is marked -/
theorem markMsgS_e (base : Nat) (v : Value) (l : ML) (k : Int) (w : World) (h : OwnE w base 83 3 v l.length (flatM l)) (hn : l.length ≤ 10) (hk0 : 0 ≤ k) (hk1 : k ≤ 100000) :
    Calls Tryd.prog 37 #[v, .int .i64 k] w fun e w' => e = .returned (.int .i64 (k + 3 * l.length)) ∧ OwnE w' base 83 3 v l.length (flatM (marksM k l.length)) ∧ Chg (fun g => wrB v g) w w' := by
  rcases h with h | ⟨h0, h1, g, rfl⟩
  · obtain ⟨a, cap, hv⟩ := owns_val h
    subst hv
    by_cases hc : 0 < l.length
    · refine (markMsgS_any _ l k w (owns_mono h (Nat.zero_le _)) (by omega) hk0 (by omega)).mono ?_
      rintro e w' ⟨rfl, o, c⟩
      have hb : ∀ g, (Value.slice a l.length cap).ownBlock = some g → wrB (.slice a l.length cap) g := fun g hg => by
        obtain ⟨_, ⟨e, e2⟩ | ⟨g', cap', cur, e, _, _, hle, _⟩⟩ := h
        · omega
        · simp at e
          obtain ⟨rfl, rfl⟩ := e
          simp [Value.ownBlock] at hg
          subst hg
          exact ⟨_, _, rfl, by omega⟩
      refine ⟨rfl, .inl ?_, c.mono (fun g _ hg => hb g hg)⟩
      obtain ⟨hl, h1 | ⟨g, cap', cur, e, hg, hh, hn', hcap, hsz, ht⟩⟩ := o
      · exact ⟨hl, .inl h1⟩
      · exact ⟨hl, .inr ⟨g, cap', cur, e, (h.lt g (by rw [e]; rfl)).1, hh, hn', hcap, hsz, ht⟩⟩
    · have hl : l = [] := List.length_eq_zero_iff.1 (by omega)
      subst hl
      refine (markMsgS_nil a cap k w).mono ?_
      rintro e w' ⟨rfl, rfl⟩
      exact ⟨by simp, .inl h, Chg.refl _ _⟩
  · have hl : l = [] := List.length_eq_zero_iff.1 h0
    subst hl
    refine (markMsgS_nil _ 0 k w).mono ?_
    rintro e w' ⟨rfl, rfl⟩
    exact ⟨by simp, .inr ⟨rfl, rfl, g, rfl⟩, Chg.refl _ _⟩
/-- a row of pairs of its own, or an empty one, is marked -/
theorem markPairS_e (base : Nat) (v : Value) (l : List (Int × Int)) (k : Int) (w : World) (h : OwnE w base 80 2 v l.length (flatP l)) (hn : l.length ≤ 10) (hk0 : 0 ≤ k) (hk1 : k ≤ 100000) :
    Calls Tryd.prog 34 #[v, .int .i64 k] w fun e w' => e = .returned (.int .i64 (k + 2 * l.length)) ∧ OwnE w' base 80 2 v l.length (flatP (marksP k l.length)) ∧ Chg (fun g => wrB v g) w w' := by
  rcases h with h | ⟨h0, h1, g, rfl⟩
  · obtain ⟨a, cap, hv⟩ := owns_val h
    subst hv
    by_cases hc : 0 < l.length
    · refine (markPairS_any _ l k w (owns_mono h (Nat.zero_le _)) (by omega) hk0 (by omega)).mono ?_
      rintro e w' ⟨rfl, o, c⟩
      have hb : ∀ g, (Value.slice a l.length cap).ownBlock = some g → wrB (.slice a l.length cap) g := fun g hg => by
        obtain ⟨_, ⟨e, e2⟩ | ⟨g', cap', cur, e, _, _, hle, _⟩⟩ := h
        · omega
        · simp at e
          obtain ⟨rfl, rfl⟩ := e
          simp [Value.ownBlock] at hg
          subst hg
          exact ⟨_, _, rfl, by omega⟩
      refine ⟨rfl, .inl ?_, c.mono (fun g _ hg => hb g hg)⟩
      obtain ⟨hl, h1 | ⟨g, cap', cur, e, hg, hh, hn', hcap, hsz, ht⟩⟩ := o
      · exact ⟨hl, .inl h1⟩
      · exact ⟨hl, .inr ⟨g, cap', cur, e, (h.lt g (by rw [e]; rfl)).1, hh, hn', hcap, hsz, ht⟩⟩
    · have hl : l = [] := List.length_eq_zero_iff.1 (by omega)
      subst hl
      refine (markPairS_nil a cap k w).mono ?_
      rintro e w' ⟨rfl, rfl⟩
      exact ⟨by simp, .inl h, Chg.refl _ _⟩
  · have hl : l = [] := List.length_eq_zero_iff.1 h0
    subst hl
    refine (markPairS_nil _ 0 k w).mono ?_
    rintro e w' ⟨rfl, rfl⟩
    exact ⟨by simp, .inr ⟨rfl, rfl, g, rfl⟩, Chg.refl _ _⟩
theorem ownB_ne {w : World} {b e s n : Nat} {v : Value} {xs : List Value} (h : w.ownsRow b e s v n xs) {M t : Nat} {c : Array Value} (hM : w.heap[M]? = some (.cells c t (0, 0))) (ht : t ≠ e) {g : Nat} (hg : v.ownBlock = some g) : ¬ g = M := by
  rintro rfl
  obtain ⟨_, c1, e1⟩ := owns_lt h hg
  rw [e1] at hM
  simp at hM
  exact ht hM.2.symm
theorem wrB_ty {w : World} {b e s n : Nat} {v : Value} {xs : List Value} (h : OwnE w b e s v n xs) {g : Nat} (hg : wrB v g) : ∃ cur, w.heap[g]? = some (.cells cur e (0, 0)) := by
  obtain ⟨k, cap, rfl, hc⟩ := hg
  rcases h with h | ⟨_, _, g', h'⟩
  · exact (owns_lt h (g := g) rfl).2
  · simp at h'; omega

/-- all its blocks lie below hi -/
def AnsB (hi : Nat) (vt vk : Value) : Option NodeV → Prop
  | none => True
  | some (.inl _) => ∀ vp, vt = .agg #[.bool true, vp, .slice none 0 0, .slice none 0 0, .slice none 0 0] → ∀ g, wrB vp g → g < hi
  | some (.inr f) => ∀ vc vb M, vt = .agg #[.bool false, .slice none 0 0, vc, .slice (some ⟨M, 0, none⟩) f.kids.length f.kids.length, vb] → (∀ g, vc.ownBlock = some g → g < hi) ∧ (∀ g, wrB vb g → g < hi) ∧ M < hi ∧ (∀ g, vk.ownBlock = some g → g < hi)
theorem AnsV.hi {base : Nat} {w : World} {vt vk : Value} {g : Option NodeV} (h : AnsV base w vt vk g) : AnsB w.heap.size vt vk g := by
  cases g with
  | none => trivial
  | some nv =>
    obtain ⟨h, _⟩ := h
    cases nv with
    | inl l =>
      obtain ⟨vp, rfl, rfl, o⟩ := h
      intro vp' e g hg
      simp at e
      subst e
      exact (o.lt g hg).2
    | inr f =>
      obtain ⟨vc, vb, M, N, rfl, h2, h3, h4, h5, h6, h7, h8⟩ := h
      intro vc' vb' M' e
      simp at e
      obtain ⟨rfl, rfl, rfl⟩ := e
      exact ⟨fun g hg => (World.ownsRow.lt h5 g hg).2, fun g hg => (h6.lt g hg).2, (Array.getElem?_eq_some_iff.1 h8).1, fun g hg => (World.ownsRow.lt h3 g hg).2⟩

set_option maxRecDepth 100000 in
set_option maxHeartbeats 2000000 in
theorem markTree_ans (base hi : Nat) (vt vk : Value) (g : Option NodeV) (w : World) (h : AnsV base w vt vk g) (hB : AnsB hi vt vk g) :
    Calls Tryd.prog 12 #[vt, .int .i64 1] w fun e w' => e = .returned (.int .i64 (1 + mtN g)) ∧ AnsT base w' vt vk g ∧ Chg (fun g => base ≤ g ∧ g < hi) w w' := by
  cases g with
  | none =>
    obtain ⟨rfl, rfl⟩ := h
    have hz : treeZ = .agg #[.bool false, .slice none 0 0, .slice none 0 0, .slice none 0 0, .slice none 0 0] := rfl
    rw [hz]
    go_enter Tryd.func12, Tryd.ntmps12
    go_wp2_with fail
    refine (markPairS_nil none 0 1 _).mono ?_
    rintro e u1 ⟨rfl, hu⟩
    subst hu
    go_wp2_with fail
    refine (markIntS_nil none 0 1 _).mono ?_
    rintro e u1 ⟨rfl, hu⟩
    subst hu
    go_wp2_with fail
    refine (markTreeS_nil none 0 1 _).mono ?_
    rintro e u1 ⟨rfl, hu⟩
    subst hu
    go_wp2_with fail
    refine (markMsgS_nil none 0 1 _).mono ?_
    rintro e u1 ⟨rfl, hu⟩
    subst hu
    go_wp2
    go_ret
    exact ⟨by simp [mtN], ⟨rfl, rfl⟩, Chg.of_below (bel_new _ _)⟩
  | some nv =>
    obtain ⟨h, hok⟩ := h
    cases nv with
    | inl l =>
      obtain ⟨vp, rfl, rfl, o⟩ := h
      obtain ⟨ap, qp, hv⟩ := o.slice
      subst hv
      have hl4 : l.length ≤ 4 := hok
      have O : Hid (OwnE w base 80 2 (.slice ap l.length qp) l.length (flatP l)) := o
      have HBB : Hid (∀ vp, (Value.agg #[.bool true, .slice ap l.length qp, .slice none 0 0, .slice none 0 0, .slice none 0 0]) = .agg #[.bool true, vp, .slice none 0 0, .slice none 0 0, .slice none 0 0] → ∀ g, wrB vp g → g < hi) := hB
      clear hB
      have Z := heap_alloc_new w (.cells #[.bool true, .slice ap l.length qp, .slice none 0 0, .slice none 0 0, .slice none 0 0] 32)
      have B := bel_new w (.cells #[.bool true, .slice ap l.length qp, .slice none 0 0, .slice none 0 0, .slice none 0 0] 32)
      clear o hok
      go_enter Tryd.func12, Tryd.ntmps12
      go_wp2_with fail
      generalize w.alloc (.cells #[.bool true, .slice ap l.length qp, .slice none 0 0, .slice none 0 0, .slice none 0 0] 32) = W at *
      refine (markPairS_e base _ l 1 W (O.out.below B) (by omega) (by decide) (by decide)).mono ?_
      rintro e u1 ⟨rfl, r1, c1⟩
      have z1 := row_chg Z c1 (fun e => by have := (O.out.lt _ e).2; omega)
      have e2 : u1.cell? ⟨w.heap.size, 2, none⟩ = some (.slice none 0 0) := by rw [cell_of_cells z1]; rfl
      have e3 : u1.cell? ⟨w.heap.size, 3, none⟩ = some (.slice none 0 0) := by rw [cell_of_cells z1]; rfl
      have e4 : u1.cell? ⟨w.heap.size, 4, none⟩ = some (.slice none 0 0) := by rw [cell_of_cells z1]; rfl
      have FIN : Hid (Row u1 (.slice ap l.length qp) l.length (flatP (marksP 1 l.length)) ∧ Chg (fun g => base ≤ g ∧ g < hi) w u1) := ⟨r1.row', (Chg.of_below B).trans c1 (fun g _ hg => ⟨(O.out.lt g hg).1, HBB.out _ rfl g hg⟩)⟩
      clear r1 c1 z1 Z B
      go_wp2_with fail
      refine (markIntS_nil none 0 _ _).mono ?_
      rintro e u2 ⟨rfl, hu⟩
      subst hu
      go_wp2_with fail
      refine (markTreeS_nil none 0 _ _).mono ?_
      rintro e u2 ⟨rfl, hu⟩
      subst hu
      go_wp2_with fail
      refine (markMsgS_nil none 0 _ _).mono ?_
      rintro e u2 ⟨rfl, hu⟩
      subst hu
      go_wp2
      go_ret
      exact ⟨rfl, ⟨_, rfl, rfl, FIN.out.1, by omega⟩, FIN.out.2⟩
    | inr f =>
      obtain ⟨vc, vb, M, N, rfl, h2, h3, h4, h5, h6, h7, h8⟩ := h
      obtain ⟨hk1, hk4, hcu, hbu⟩ := hok
      obtain ⟨ac, qc, hv⟩ := owns_val h5
      subst hv
      obtain ⟨am, qm, hv⟩ := h6.slice
      subst hv
      have ok := kids_own h8 (by omega)
      have HBB : Hid _ := hB _ _ _ rfl
      clear hB
      have Z := heap_alloc_new w (.cells #[.bool false, .slice none 0 0, .slice ac f.cuts.length qc, .slice (some ⟨M, 0, none⟩) f.kids.length f.kids.length, .slice am f.buf.length qm] 32)
      have B := bel_new w (.cells #[.bool false, .slice none 0 0, .slice ac f.cuts.length qc, .slice (some ⟨M, 0, none⟩) f.kids.length f.kids.length, .slice am f.buf.length qm] 32)
      have O : Hid _ := And.intro h3 (And.intro h4 (And.intro h5 (And.intro h6 (And.intro h7 (And.intro h8 ok)))))
      have hc3 : f.cuts.length ≤ 3 := by omega
      have HCU : Hid (f.cuts.length + 1 = f.kids.length) := hcu
      clear h3 h4 h5 h6 h7 h8 ok hcu
      go_enter Tryd.func12, Tryd.ntmps12
      go_wp2_with fail
      generalize w.alloc (.cells #[.bool false, .slice none 0 0, .slice ac f.cuts.length qc, .slice (some ⟨M, 0, none⟩) f.kids.length f.kids.length, .slice am f.buf.length qm] 32) = W at *
      refine (markPairS_nil none 0 1 W).mono ?_
      rintro e u0 ⟨rfl, hu⟩
      rw [hu]
      clear hu
      obtain ⟨h3, h4, h5, h6, h7, h8, ok⟩ := O.out
      have o5 : W.ownsRow N 3 1 (.slice ac f.cuts.length qc) f.cuts.length (flatI f.cuts) := owns_below h5 B
      have x2 : W.cell? ⟨w.heap.size, 2, none⟩ = some (.slice ac f.cuts.length qc) := by rw [cell_of_cells Z]; rfl
      have HB : Hid _ := And.intro Z B
      clear Z B h3 h4 h5 h6 h7 h8 ok
      go_wp2_with fail
      refine (markIntS_s _ f.cuts 1 W (owns_mono o5 (Nat.zero_le _)) (by omega) (by decide) (by decide)).mono ?_
      rintro e u1 ⟨rfl, q5, c1⟩
      obtain ⟨h3, h4, h5, h6, h7, h8, ok⟩ := O.out
      obtain ⟨Z, B⟩ := HB.out
      have lt5 : ∀ g, (Value.slice ac f.cuts.length qc).ownBlock = some g → N ≤ g ∧ g < w.heap.size := fun g hg => World.ownsRow.lt h5 g hg
      have z1 := row_chg Z c1 (fun e => by have := (lt5 _ e).2; omega)
      have k1 : OwnI base u1 vk f.kids := owns_chg (owns_below h3 B) c1 (fun g hg e => by have := h4 g hg; have := (lt5 g e).1; omega)
      have m1 := (h6.below B).chg c1 (fun g hg e => by
        obtain ⟨cur, e1⟩ := wrB_ty h6 hg
        obtain ⟨_, c2, e2⟩ := owns_lt h5 e
        rw [e1] at e2; simp at e2)
      have t1 := owns_chg (owns_below ok B) c1 (fun g hg e => by
        obtain ⟨_, c3, e3⟩ := owns_lt ok hg
        obtain ⟨_, c2, e2⟩ := owns_lt h5 e
        rw [e3] at e2; simp at e2)
      have q5' : u1.ownsRow N 3 1 (.slice ac f.cuts.length qc) f.cuts.length (flatI (marksI 1 f.cuts.length)) := by
        obtain ⟨hl, h1 | ⟨g, cap', cur, e, hg, hh, hn', hcap, hsz, ht⟩⟩ := q5
        · exact ⟨hl, .inl h1⟩
        · exact ⟨hl, .inr ⟨g, cap', cur, e, (lt5 g (by rw [e]; rfl)).1, hh, hn', hcap, hsz, ht⟩⟩
      have C1 : Chg (fun g => base ≤ g ∧ g < hi) w u1 := (Chg.of_below B).trans c1 (fun g _ hg => ⟨Nat.le_trans h2 (lt5 g hg).1, HBB.out.1 g hg⟩)
      have hM : u1.heap[M]? = w.heap[M]? := by
        have hMw : M < w.heap.size := (Array.getElem?_eq_some_iff.1 h8).1
        rw [c1.block M (by have := B.size; omega) (fun e => ownB_ne h5 h8 (by decide) e rfl), B.block M hMw]
      have x3 : u1.cell? ⟨w.heap.size, 3, none⟩ = some (.slice (some ⟨M, 0, none⟩) f.kids.length f.kids.length) := by rw [cell_of_cells z1]; rfl
      have J : Hid _ := And.intro z1 (And.intro k1 (And.intro m1 (And.intro t1 (And.intro q5' C1))))
      clear h3 h4 h5 h6 h8 ok Z B z1 k1 m1 t1 q5' C1 c1 q5 lt5 o5 x2 hM
      have hk9 : (0 : Int) ≤ 1 + f.cuts.length := by omega
      have hk8 : (1 : Int) + f.cuts.length ≤ 100000 := by omega
      go_wp2_with fail
      refine (markTreeS_z M f.kids.length (1 + f.cuts.length) u1 (owns_mono J.out.2.2.2.1 (Nat.zero_le _)) (by omega) hk9 (by omega)).mono ?_
      rintro e u2 ⟨rfl, t2, c2⟩
      obtain ⟨z1, k1, m1, t1, q5, C1⟩ := J.out
      have MM : ∃ cur, u1.heap[M]? = some (.cells cur 32 (0, 0)) := (owns_lt t1 (g := M) rfl).2
      obtain ⟨curM, hMM⟩ := MM
      have Mlt : N ≤ M ∧ M < w.heap.size := ⟨h7, (Array.getElem?_eq_some_iff.1 O.out.2.2.2.2.2.1).1⟩
      have z2 := row_chg z1 c2 (by omega)
      have k2 : OwnI base u2 vk f.kids := owns_chg k1 c2 (fun g hg e => ownB_ne k1 hMM (by decide) hg e)
      have m2 := m1.chg c2 (fun g hg e => by
        obtain ⟨cur, e1⟩ := wrB_ty m1 hg
        subst e
        rw [hMM] at e1; simp at e1)
      have q2 : OwnI N u2 (.slice ac f.cuts.length qc) (marksI 1 f.cuts.length) := by
        have := owns_chg q5 c2 (fun g hg e => ownB_ne q5 hMM (by decide) hg e)
        unfold OwnI
        rw [marksI_length]
        exact this
      have t2' : u2.ownsRow N 32 5 (.slice (some ⟨M, 0, none⟩) f.kids.length f.kids.length) f.kids.length (flatT (marksK (1 + f.cuts.length) f.kids.length)) := by
        obtain ⟨hl, h1 | ⟨g, cap', cur, e, hg, hh, hn', hcap, hsz, ht⟩⟩ := t2
        · exact ⟨hl, .inl h1⟩
        · have hgM : g = M := by simp at e; exact e.1.symm
          exact ⟨hl, .inr ⟨g, cap', cur, e, by omega, hh, hn', hcap, hsz, ht⟩⟩
      have C2 : Chg (fun g => base ≤ g ∧ g < hi) w u2 := C1.trans c2 (fun g _ hg => ⟨by omega, by rw [hg]; exact HBB.out.2.2.1⟩)
      have x4 : u2.cell? ⟨w.heap.size, 4, none⟩ = some (.slice am f.buf.length qm) := by rw [cell_of_cells z2]; rfl
      have L : Hid _ := And.intro k2 (And.intro m2 (And.intro q2 (And.intro t2' C2)))
      clear z1 k1 m1 t1 q5 C1 hMM z2 k2 m2 q2 t2 t2' C2 c2 x3 J curM
      have hk7 : (0 : Int) ≤ 1 + f.cuts.length + f.kids.length := by omega
      have hk6 : (1 : Int) + f.cuts.length + f.kids.length ≤ 100000 := by omega
      go_wp2_with fail
      refine (markMsgS_e N _ f.buf (1 + f.cuts.length + f.kids.length) u2 L.out.2.1 (by omega) hk7 hk6).mono ?_
      rintro e u3 ⟨rfl, m3, c3⟩
      obtain ⟨k2, m2, q2, t2, C2⟩ := L.out
      have FIN : Hid (AnsT base u3 (.agg #[.bool false, .slice none 0 0, .slice ac f.cuts.length qc, .slice (some ⟨M, 0, none⟩) f.kids.length f.kids.length, .slice am f.buf.length qm]) vk (some (.inr f)) ∧ Chg (fun g => base ≤ g ∧ g < hi) w u3) := by
        refine ⟨⟨_, _, M, N, rfl, ⟨by omega, by omega, by omega⟩, h2, ?_, O.out.2.1, ?_, m3, ?_⟩, C2.trans c3 (fun g _ hg => ⟨by have := (m2.lt g hg).1; omega, HBB.out.2.1 g hg⟩)⟩
        · exact owns_chg k2 c3 (fun g hg e => by
            obtain ⟨cur, e1⟩ := wrB_ty m2 e
            obtain ⟨_, c2, e2⟩ := owns_lt k2 hg
            rw [e1] at e2; simp at e2)
        · exact owns_chg q2 c3 (fun g hg e => by
            obtain ⟨cur, e1⟩ := wrB_ty m2 e
            obtain ⟨_, c2, e2⟩ := owns_lt q2 hg
            rw [e1] at e2; simp at e2)
        · exact owns_chg t2 c3 (fun g hg e => by
            obtain ⟨cur, e1⟩ := wrB_ty m2 e
            obtain ⟨_, c2, e2⟩ := owns_lt t2 hg
            rw [e1] at e2; simp at e2)
      clear k2 m2 q2 t2 C2 m3 c3 L x4
      go_wp2
      go_ret
      refine ⟨ret_int ?_, FIN.out⟩
      simp only [mtN]
      omega

end Go.Proofs.YtckphbmlmjlipaaDoor
