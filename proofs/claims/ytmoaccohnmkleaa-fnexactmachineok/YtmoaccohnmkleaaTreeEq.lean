/-
  Contracts of the laws' own functions that hold two trees against each other.
-/
import Derived.Test.YtmoaccohnmkleaaTree
namespace Go.Proofs.Ytmoaccohnmkleaa
open Go.RowKit

theorem il_ext {l1 l2 : List Int} (hl : l1.length = l2.length) (h : ∀ i, i < l1.length → iAt l1 i = iAt l2 i) : l1 = l2 := by
  apply List.ext_getElem hl
  intro i h1 h2
  have := h i h1
  simpa [iAt, List.getD, h1, h2] using this

set_option maxHeartbeats 1000000 in
theorem eqIntS_any (v1 v2 : Value) (l1 l2 : List Int) (w : World) (h1 : Row w v1 l1.length (flatI l1)) (h2 : Row w v2 l2.length (flatI l2)) :
    Calls Try.prog 35 #[v1, v2] w fun e w' => e = .returned (.bool (decide (l1 = l2))) ∧ Below w.heap.size w w' := by
  obtain ⟨a, b, off, cap, rfl, hcap, hmax, ha, hk⟩ := h1.ints
  obtain ⟨a2, b2, off2, cap2, rfl, hcap2, hmax2, ha2, hk2⟩ := h2.ints
  unfold maxLen at hmax hmax2
  by_cases hl : l1.length = l2.length
  · have hne : ((l1.length : Int) != (l2.length : Int)) = false := by rw [bne_eq_false_iff_eq]; omega
    have HL : Hid (l1.length = l2.length) := hl
    have hl2 : l1.length ≤ l2.length := by omega
    clear hl
    go_enter Try.func35, Try.ntmps35
    go_wp2
    go_loopw [5] (fun i wr => ∃ k : Nat, k ≤ l1.length ∧ i = .int .i64 k ∧ Hid (∀ i, i < k → iAt l1 i = iAt l2 i) ∧ Below w.heap.size w wr)
      (fun i _ => l1.length - (intOf i).toNat)
    case atStart => exact ⟨0, Nat.zero_le _, rfl, fun i hi => absurd hi (Nat.not_lt_zero _), Below.refl _ _⟩
    case round =>
      obtain ⟨k, hkl, rfl, ALL, hb⟩ := hrel
      by_cases hlt : k < l1.length
      · have hal := ha (by omega)
        subst hal
        have hal2 := ha2 (by omega)
        subst hal2
        have hlt2 : k < l2.length := by omega
        have d0 := (hb.cell (by exact cell_lt (hk k hlt))).trans (hk k hlt)
        have d1 := (hb.cell (by exact cell_lt (hk2 k hlt2))).trans (hk2 k hlt2)
        clear hk ha hk2 ha2
        by_cases hq : iAt l1 k = iAt l2 k
        · have hq' : (iAt l1 k != iAt l2 k) = false := by rw [bne_eq_false_iff_eq]; exact hq
          have EQ : Hid (iAt l1 k = iAt l2 k) := hq
          clear hq
          go_wp2_with fail
          go_quiet (fail)
          go_wp2
          go_roundw
          case rel => exact ⟨k + 1, by omega, by go_num, fun i hi => if h : i < k then ALL.out i h else by rw [show i = k by omega]; exact EQ.out, below_drewN hb _⟩
          case measure => simp [intOf]; omega
        · have hq' : (iAt l1 k != iAt l2 k) = true := by rw [bne_iff_ne]; exact hq
          have NE : Hid (decide (l1 = l2) = false) := decide_eq_false (fun e => hq (by rw [e]))
          clear hq
          go_wp2_with fail
          go_quiet (fail)
          go_wp2
          go_ret
          exact ⟨ret_bool NE.out.symm, below_drewN hb _⟩
      · go_wp2
        go_ret
        refine ⟨ret_bool ?_, hb⟩
        symm
        rw [decide_eq_true_iff]
        exact il_ext HL.out (fun i hi => ALL.out i (by omega))
  · have hne : ((l1.length : Int) != (l2.length : Int)) = true := by rw [bne_iff_ne]; omega
    go_enter Try.func35, Try.ntmps35
    go_wp2
    go_ret
    refine ⟨ret_bool ?_, Below.refl _ _⟩
    symm
    rw [decide_eq_false_iff_not]
    intro h; exact hl (by rw [h])

/-- WHAT eqTree, eqTreeS SAY OF ONE TREE IN TWO PLACES. -/
def EqTree (n : Nat) : Prop := ∀ (x y : TV) (T : Tr) (w : World), TreeAt n w x T → TreeAt n w y T →
    Calls Try.prog 18 #[x.val, y.val] w fun e w' => e = .returned (.bool true) ∧ Below w.heap.size w w'
def EqTreeS (n : Nat) : Prop := ∀ (v u : Value) (ts : List Tr) (w : World), TreesAt n w v ts → TreesAt n w u ts →
    Calls Try.prog 36 #[v, u] w fun e w' => e = .returned (.bool true) ∧ Below w.heap.size w w'

set_option maxHeartbeats 2000000 in
theorem eqTreeS_of {n : Nat} (H : EqTree n) : EqTreeS n := by
  intro v u ts w hv hu
  obtain ⟨xs, hxl, hrow, hk⟩ := hv
  obtain ⟨ys, hyl, hrow2, hk2⟩ := hu
  obtain ⟨a, b, off, cap, rfl, hcap, hmax, ha, c0, c1, c2, c3, c4⟩ := hrow.trees
  obtain ⟨a2, b2, off2, cap2, rfl, hcap2, hmax2, ha2, g0, g1, g2, g3, g4⟩ := hrow2.trees
  unfold maxLen at hmax hmax2
  have hl2 : xs.length ≤ ys.length := by omega
  have hne : ((xs.length : Int) != (ys.length : Int)) = false := by rw [bne_eq_false_iff_eq]; omega
  clear hxl hyl
  go_enter Try.func36, Try.ntmps36
  go_wp2
  go_loopw [5] (fun i wr => ∃ k : Nat, k ≤ xs.length ∧ i = .int .i64 k ∧ Below w.heap.size w wr)
    (fun i _ => xs.length - (intOf i).toNat)
  case atStart => exact ⟨0, Nat.zero_le _, rfl, Below.refl _ _⟩
  case round =>
    obtain ⟨k, hkl, rfl, hb⟩ := hrel
    by_cases hlt : k < xs.length
    · have hal := ha (by omega)
      subst hal
      have hal2 := ha2 (by omega)
      subst hal2
      have hlt2 : k < ys.length := by omega
      have d0 := (hb.cell (by exact cell_lt (c0 k hlt))).trans (c0 k hlt)
      have d1 := (hb.cell (by exact cell_lt (c1 k hlt))).trans (c1 k hlt)
      have d2 := (hb.cell (by exact cell_lt (c2 k hlt))).trans (c2 k hlt)
      have d3 := (hb.cell (by exact cell_lt (c3 k hlt))).trans (c3 k hlt)
      have d4 := (hb.cell (by exact cell_lt (c4 k hlt))).trans (c4 k hlt)
      have e0 := (hb.cell (by exact cell_lt (g0 k hlt2))).trans (g0 k hlt2)
      have e1 := (hb.cell (by exact cell_lt (g1 k hlt2))).trans (g1 k hlt2)
      have e2 := (hb.cell (by exact cell_lt (g2 k hlt2))).trans (g2 k hlt2)
      have e3 := (hb.cell (by exact cell_lt (g3 k hlt2))).trans (g3 k hlt2)
      have e4 := (hb.cell (by exact cell_lt (g4 k hlt2))).trans (g4 k hlt2)
      have T0 : Hid (TreeAt n wr.drew (tvAt xs k) (ts.getD k noTr)) := (hk k hlt).below hb.drew
      have T1 : Hid (TreeAt n wr.drew (tvAt ys k) (ts.getD k noTr)) := (hk2 k hlt2).below hb.drew
      clear c0 c1 c2 c3 c4 hk hrow ha g0 g1 g2 g3 g4 hk2 hrow2 ha2
      go_wp2_with fail
      go_region_with (go_at_call 18; refine (H (tvAt xs k) (tvAt ys k) _ _ T0.out T1.out).mono ?_; rintro e w1 ⟨rfl, hb1⟩)
      all_goals
        go_wp2
        go_roundw
        case rel => exact ⟨k + 1, by omega, by go_num, hb.drew.trans (hb1.mono hb.size)⟩
        case measure => simp [intOf]; omega
    · clear c0 c1 c2 c3 c4 hk hrow ha g0 g1 g2 g3 g4 hk2 hrow2 ha2
      go_wp2
      go_ret
      exact ⟨rfl, hb⟩

/-- TWO BLOCKS, one behind the other. -/
structure TwoAt (u : World) (B : Nat) (A Z : Array Value) : Prop where
  h0 : u.heap[B]? = some (.cells A 37 (0, 0))
  h1 : u.heap[B + 1]? = some (.cells Z 37 (0, 0))
theorem TwoAt.step {u w' : World} {B : Nat} {A Z : Array Value} (h : TwoAt u B A Z) (hb : Below u.heap.size u w') : TwoAt w' B A Z := by
  have hs := (Array.getElem?_eq_some_iff.1 h.h1).1
  exact ⟨(hb.block _ (by omega)).trans h.h0, (hb.block _ (by omega)).trans h.h1⟩
theorem TwoAt.cells {u : World} {B : Nat} {A Z : Array Value} (h : TwoAt u B A Z) : (∀ j, u.cell? ⟨B, j, none⟩ = A[j]?) ∧ (∀ j, u.cell? ⟨B + 1, j, none⟩ = Z[j]?) :=
  ⟨fun j => cell_of_row u B j A 37 (0, 0) h.h0, fun j => cell_of_row u (B + 1) j Z 37 (0, 0) h.h1⟩
theorem TwoAt.start (w : World) (A Z : Array Value) : TwoAt ((w.alloc (.cells A 37)).alloc (.cells Z 37)) w.heap.size A Z := by
  have e : ∀ (x : World) (o : Obj), (x.alloc o).heap.size = x.heap.size + 1 := fun x o => by simp
  have k1 : ∀ (x : World) (o : Obj) (g : Nat), g < x.heap.size → (x.alloc o).heap[g]? = x.heap[g]? := fun x o g hg => ((Below.refl x.heap.size x).alloc (Nat.le_refl _) o).block g hg
  refine ⟨?_, ?_⟩
  · rw [k1 _ _ _ (by rw [e]; omega)]; exact heap_alloc_new w _
  · rw [← e w (.cells A 37)]; exact heap_alloc_new _ _

set_option maxHeartbeats 2000000 in
theorem eqTree_of {n : Nat} (H : EqTreeS n) : EqTree (n + 1) := by
  intro x y T w ht hu
  obtain ⟨lf, p, c, k, b⟩ := x
  obtain ⟨lf2, p2, c2, k2, b2⟩ := y
  obtain ⟨hlf, hp, hc, hb, hk⟩ := ht.parts
  obtain ⟨hlf2, hp2, hc2, hb2, hk2⟩ := hu.parts
  simp only at hlf hp hc hb hk hlf2 hp2 hc2 hb2 hk2
  subst hlf
  subst hlf2
  have R1 : Hid (Row w p T.pairs.length (flatP T.pairs)) := hp
  have R2 : Hid (Row w c T.cuts.length (flatI T.cuts)) := hc
  have R3 : Hid (TreesAt n w k T.kids) := hk
  have R4 : Hid (Row w b T.buf.length (flatM T.buf)) := hb
  have Q1 : Hid (Row w p2 T.pairs.length (flatP T.pairs)) := hp2
  have Q2 : Hid (Row w c2 T.cuts.length (flatI T.cuts)) := hc2
  have Q3 : Hid (TreesAt n w k2 T.kids) := hk2
  have Q4 : Hid (Row w b2 T.buf.length (flatM T.buf)) := hb2
  clear hp hc hb hk ht hp2 hc2 hb2 hk2 hu
  have hlf : (T.leaf != T.leaf) = false := by simp
  show Calls Try.prog 18 #[.agg #[.bool T.leaf, p, c, k, b], .agg #[.bool T.leaf, p2, c2, k2, b2]] w _
  have B0 : Hid (Below w.heap.size w ((w.alloc (.cells #[.bool T.leaf, p, c, k, b] 37)).alloc (.cells #[.bool T.leaf, p2, c2, k2, b2] 37))) := ((Below.refl _ _).alloc (Nat.le_refl _) _).alloc (by simp) _
  have S0 : Hid (TwoAt _ w.heap.size _ _) := TwoAt.start w #[.bool T.leaf, p, c, k, b] #[.bool T.leaf, p2, c2, k2, b2]
  go_enter Try.func18, Try.ntmps18
  go_wp2_with fail
  refine (eqPairS_any _ _ _ _ _ (R1.out.below B0.out) (Q1.out.below B0.out)).mono ?_
  rintro e w1 ⟨he, hb1⟩
  rw [decide_eq_true rfl] at he
  subst he
  have B1 : Hid (Below w.heap.size w w1) := Below.and B0.out hb1
  have S1 : Hid (TwoAt w1 w.heap.size #[.bool T.leaf, p, c, k, b] #[.bool T.leaf, p2, c2, k2, b2]) := S0.out.step hb1
  obtain ⟨k0, k1⟩ := S1.out.cells
  clear B0 S0 hb1
  go_wp2_with fail
  refine (eqIntS_any _ _ _ _ _ (R2.out.below B1.out) (Q2.out.below B1.out)).mono ?_
  rintro e w2 ⟨he, hb2⟩
  rw [decide_eq_true rfl] at he
  subst he
  have B2 : Hid (Below w.heap.size w w2) := Below.and B1.out hb2
  have S2 : Hid (TwoAt w2 w.heap.size #[.bool T.leaf, p, c, k, b] #[.bool T.leaf, p2, c2, k2, b2]) := S1.out.step hb2
  clear B1 S1 hb2 k0 k1
  obtain ⟨k0, k1⟩ := S2.out.cells
  go_wp2_with fail
  refine (H _ _ T.kids _ (R3.out.below B2.out) (Q3.out.below B2.out)).mono ?_
  rintro e w3 ⟨rfl, hb3⟩
  have B3 : Hid (Below w.heap.size w w3) := Below.and B2.out hb3
  have S3 : Hid (TwoAt w3 w.heap.size #[.bool T.leaf, p, c, k, b] #[.bool T.leaf, p2, c2, k2, b2]) := S2.out.step hb3
  clear B2 S2 hb3 k0 k1
  obtain ⟨k0, k1⟩ := S3.out.cells
  go_wp2_with fail
  refine (eqMsgS_any _ _ _ _ _ (R4.out.below B3.out) (Q4.out.below B3.out)).mono ?_
  rintro e w4 ⟨he, hb4⟩
  rw [decide_eq_true rfl] at he
  subst he
  have B4 : Hid (Below w.heap.size w w4) := Below.and B3.out hb4
  clear B3 S3 hb4 k0 k1
  go_wp2
  go_ret
  exact ⟨rfl, B4.out⟩

theorem eqTree_any : ∀ n, EqTree n
  | 0 => fun _ _ _ _ h => h.elim
  | n + 1 => eqTree_of (eqTreeS_of (eqTree_any n))

end Go.Proofs.Ytmoaccohnmkleaa
