/-
  The laws' own function that writes marks into a tree: it ends, counts the marks, and writes within given bounds alone.
-/
import Derived.Test.YtckphbmlmjlipaaDoorPart4
import Derived.Test.YtckphbmlmjlipaaDoorPart1
namespace Go.Proofs.YtckphbmlmjlipaaDoor
open Go.RowKit

/-- a cell that may be written: a number by a number; a tree's flag by a flag -/
def Like (t j : Nat) (v v' : Value) : Prop := v' = v ∨ (t ≠ 32 ∧ (∃ x, v = .int .i64 x) ∧ ∃ x, v' = .int .i64 x) ∨ (t = 32 ∧ j % 5 = 0 ∧ (∃ b, v = .bool b) ∧ ∃ b, v' = .bool b)
theorem Like.trans {t j : Nat} {a b c : Value} (h : Like t j a b) (k : Like t j b c) : Like t j a c := by
  rcases h with rfl | ⟨h1, h2, h3⟩ | ⟨h1, h2, h3, h4⟩
  · exact k
  · rcases k with rfl | ⟨_, _, k3⟩ | ⟨k1, _⟩
    · exact .inr (.inl ⟨h1, h2, h3⟩)
    · exact .inr (.inl ⟨h1, h2, k3⟩)
    · exact absurd k1 h1
  · rcases k with rfl | ⟨k1, _⟩ | ⟨_, _, _, k4⟩
    · exact .inr (.inr ⟨h1, h2, h3, h4⟩)
    · exact absurd h1 k1
    · exact .inr (.inr ⟨h1, h2, h3, k4⟩)

/-- WHAT MARKS CHANGE: within the blocks from lo on and below hi alone, like by like. -/
structure Mk (lo hi : Nat) (w w' : World) : Prop where
  chg : Chg (fun g => lo ≤ g ∧ g < hi) w w'
  like : ∀ g A t, lo ≤ g → g < hi → w.heap[g]? = some (.cells A t (0, 0)) → ∃ A' : Array Value, w'.heap[g]? = some (.cells A' t (0, 0)) ∧ ∀ j v, A[j]? = some v → ∃ v', A'[j]? = some v' ∧ Like t j v v'
theorem Mk.refl (lo hi : Nat) (w : World) : Mk lo hi w w := ⟨Chg.refl _ _, fun _ A _ _ _ h => ⟨A, h, fun _ v hv => ⟨v, hv, .inl rfl⟩⟩⟩
theorem Mk.trans {lo hi : Nat} {a b c : World} (h : Mk lo hi a b) (k : Mk lo hi b c) : Mk lo hi a c := by
  refine ⟨h.chg.trans k.chg fun _ _ e => e, fun g A t h1 h2 h3 => ?_⟩
  obtain ⟨A', h4, h5⟩ := h.like g A t h1 h2 h3
  obtain ⟨A'', h6, h7⟩ := k.like g A' t h1 h2 h4
  refine ⟨A'', h6, fun j v hv => ?_⟩
  obtain ⟨v', h8, h9⟩ := h5 j v hv
  obtain ⟨v'', h10, h11⟩ := h7 j v' h8
  exact ⟨v'', h10, h9.trans h11⟩
theorem Mk.alloc {lo hi : Nat} {a b : World} (h : Mk lo hi a b) (o : Obj) : Mk lo hi a (b.alloc o) := by
  refine ⟨h.chg.alloc o, fun g A t h1 h2 h3 => ?_⟩
  obtain ⟨A', h4, h5⟩ := h.like g A t h1 h2 h3
  exact ⟨A', by rw [((Below.refl b.heap.size b).alloc (Nat.le_refl _) o).block g (Array.getElem?_eq_some_iff.1 h4).1]; exact h4, h5⟩

theorem Mk.of_below {lo hi : Nat} {a b : World} (h : Below hi a b) (hs : a.heap.size ≤ hi) : Mk lo hi a b :=
  ⟨⟨h.os, h.tape, h.output, h.size, fun g hg _ => h.block g (Nat.lt_of_lt_of_le hg hs)⟩, fun g A _ _ h2 h3 => ⟨A, by rw [h.block g h2]; exact h3, fun _ v hv => ⟨v, hv, .inl rfl⟩⟩⟩

/-- A BLOCK OF NUMBERS, as far as m. -/
def Blk (w : World) (g t m : Nat) : Prop := ∃ A : Array Value, w.heap[g]? = some (.cells A t (0, 0)) ∧ ∀ j, j < m → ∃ x, A[j]? = some (.int .i64 x)
theorem Blk.cell {w : World} {g t m : Nat} (h : Blk w g t m) {j : Nat} (hj : j < m) : (∃ x, w.cell? ⟨g, j, none⟩ = some (.int .i64 x)) ∧ w.frozen? ⟨g, j, none⟩ = false := by
  obtain ⟨A, h1, h2⟩ := h
  obtain ⟨x, hx⟩ := h2 j hj
  exact ⟨⟨x, (cell_of_row w g j A t (0, 0) h1).trans hx⟩, frozen_of_row w g j A t h1⟩
theorem Blk.set {w : World} {g t m : Nat} (h : Blk w g t m) (j : Nat) (y : Int) : Blk (w.setCell ⟨g, j, none⟩ (.int .i64 y)) g t m := by
  obtain ⟨A, h1, h2⟩ := h
  refine ⟨_, heap_setCell_same w g j A t _ h1, fun i hi => ?_⟩
  obtain ⟨x, hx⟩ := h2 i hi
  by_cases hij : j = i
  · subst hij
    exact ⟨y, by rw [Array.getElem?_setIfInBounds_self_of_lt (Array.getElem?_eq_some_iff.1 hx).1]⟩
  · exact ⟨x, by rw [Array.getElem?_setIfInBounds_ne hij]; exact hx⟩
theorem Mk.setInt {lo hi : Nat} {w w' : World} (h : Mk lo hi w w') {g t m j : Nat} (hb : Blk w' g t m) (h1 : lo ≤ g) (h2 : g < hi) (ht : t ≠ 32) (hj : j < m) (y : Int) : Mk lo hi w (w'.setCell ⟨g, j, none⟩ (.int .i64 y)) := by
  refine h.trans ⟨(Chg.refl _ _).setAt g j ⟨h1, h2⟩ _, fun g' A t' _ _ h3 => ?_⟩
  by_cases hg : g' = g
  · subst hg
    obtain ⟨B, hB, hB2⟩ := hb
    rw [hB] at h3
    cases h3
    refine ⟨_, heap_setCell_same w' g' j _ _ _ hB, fun i v hv => ?_⟩
    by_cases hij : j = i
    · subst hij
      obtain ⟨x, hx⟩ := hB2 j hj
      rw [hx] at hv
      cases hv
      exact ⟨.int .i64 y, by rw [Array.getElem?_setIfInBounds_self_of_lt (Array.getElem?_eq_some_iff.1 hx).1], .inr (.inl ⟨ht, ⟨x, rfl⟩, ⟨y, rfl⟩⟩)⟩
    · exact ⟨v, by rw [Array.getElem?_setIfInBounds_ne hij]; exact hv, .inl rfl⟩
  · exact ⟨A, by rw [Below.heap_setCell _ _ _ _ hg]; exact h3, fun _ v hv => ⟨v, hv, .inl rfl⟩⟩
theorem Blk.mk {lo hi : Nat} {w w' : World} {g t m : Nat} (h : Blk w g t m) (k : Mk lo hi w w') (h1 : lo ≤ g) (h2 : g < hi) (ht : t ≠ 32) : Blk w' g t m := by
  obtain ⟨A, h3, h4⟩ := h
  obtain ⟨A', h5, h6⟩ := k.like g A t h1 h2 h3
  refine ⟨A', h5, fun j hj => ?_⟩
  obtain ⟨x, hx⟩ := h4 j hj
  obtain ⟨v', h7, h8⟩ := h6 j _ hx
  rcases h8 with rfl | ⟨_, _, ⟨y, rfl⟩⟩ | ⟨e, _⟩
  · exact ⟨x, h7⟩
  · exact ⟨y, h7⟩
  · exact absurd e ht

/-- A ROW OF NUMBERS within the bounds, whatever they are. -/
def IntRow (w : World) (lo hi : Nat) (v : Value) (n size : Nat) : Prop :=
  ∃ (a : Option Addr) (g cap t : Nat), v = .slice a n cap ∧ n ≤ cap ∧ cap ≤ maxLen ∧ (0 < n → a = some ⟨g, 0, none⟩ ∧ lo ≤ g ∧ g < hi ∧ t ≠ 32 ∧ Blk w g t (n * size))
theorem IntRow.mk {lo hi : Nat} {w w' : World} {v : Value} {n size : Nat} (h : IntRow w lo hi v n size) (k : Mk lo hi w w') : IntRow w' lo hi v n size := by
  obtain ⟨a, g, cap, t, h1, h2, h3, h4⟩ := h
  exact ⟨a, g, cap, t, h1, h2, h3, fun hn => by obtain ⟨q1, q2, q3, q4, q5⟩ := h4 hn; exact ⟨q1, q2, q3, q4, q5.mk k q2 q3 q4⟩⟩

/-- A BLOCK OF TREES' STRUCTS. -/
def TBlk (w : World) (g : Nat) (xs : List TV) : Prop := ∃ A : Array Value, w.heap[g]? = some (.cells A 32 (0, 0)) ∧ ∀ i, i < xs.length → (∃ b, A[i * 5]? = some (.bool b)) ∧ A[i * 5 + 1]? = some (tvAt xs i).p ∧ A[i * 5 + 2]? = some (tvAt xs i).c ∧ A[i * 5 + 3]? = some (tvAt xs i).k ∧ A[i * 5 + 4]? = some (tvAt xs i).b
theorem TBlk.cells {w : World} {g : Nat} {xs : List TV} (h : TBlk w g xs) {i : Nat} (hi : i < xs.length) : (∃ b, w.cell? ⟨g, i * 5, none⟩ = some (.bool b)) ∧ w.cell? ⟨g, i * 5 + 1, none⟩ = some (tvAt xs i).p ∧ w.cell? ⟨g, i * 5 + 2, none⟩ = some (tvAt xs i).c ∧ w.cell? ⟨g, i * 5 + 3, none⟩ = some (tvAt xs i).k ∧ w.cell? ⟨g, i * 5 + 4, none⟩ = some (tvAt xs i).b ∧ w.frozen? ⟨g, i * 5, none⟩ = false := by
  obtain ⟨A, h1, h2⟩ := h
  obtain ⟨⟨b, h3⟩, h4, h5, h6, h7⟩ := h2 i hi
  have c := fun j => cell_of_row w g j A 32 (0, 0) h1
  exact ⟨⟨b, (c _).trans h3⟩, (c _).trans h4, (c _).trans h5, (c _).trans h6, (c _).trans h7, frozen_of_row w g _ A 32 h1⟩
theorem TBlk.mk {lo hi : Nat} {w w' : World} {g : Nat} {xs : List TV} (h : TBlk w g xs) (k : Mk lo hi w w') (h1 : lo ≤ g) (h2 : g < hi) : TBlk w' g xs := by
  obtain ⟨A, h3, h4⟩ := h
  obtain ⟨A', h5, h6⟩ := k.like g A 32 h1 h2 h3
  refine ⟨A', h5, fun i hi => ?_⟩
  obtain ⟨⟨b, q0⟩, q1, q2, q3, q4⟩ := h4 i hi
  have fix : ∀ j v, A[j]? = some v → j % 5 ≠ 0 → A'[j]? = some v := fun j v hv hj => by
    obtain ⟨v', h7, h8⟩ := h6 j v hv
    rcases h8 with rfl | ⟨e, _⟩ | ⟨_, e, _⟩
    · exact h7
    · exact absurd rfl e
    · exact absurd e hj
  refine ⟨?_, fix _ _ q1 (by omega), fix _ _ q2 (by omega), fix _ _ q3 (by omega), fix _ _ q4 (by omega)⟩
  obtain ⟨v', h7, h8⟩ := h6 _ _ q0
  rcases h8 with rfl | ⟨e, _⟩ | ⟨_, _, _, ⟨b', rfl⟩⟩
  · exact ⟨b, h7⟩
  · exact absurd rfl e
  · exact ⟨b', h7⟩
theorem Mk.setFlag {lo hi : Nat} {w w' : World} (h : Mk lo hi w w') {g i : Nat} {xs : List TV} (hb : TBlk w' g xs) (h1 : lo ≤ g) (h2 : g < hi) (hix : i < xs.length) (y : Bool) : Mk lo hi w (w'.setCell ⟨g, i * 5, none⟩ (.bool y)) := by
  refine h.trans ⟨(Chg.refl _ _).setAt g (i * 5) ⟨h1, h2⟩ _, fun g' A t' _ _ h3 => ?_⟩
  by_cases hg : g' = g
  · subst hg
    obtain ⟨B, hB, hB2⟩ := hb
    rw [hB] at h3
    cases h3
    refine ⟨_, heap_setCell_same w' g' (i * 5) _ _ _ hB, fun j v hv => ?_⟩
    by_cases hij : i * 5 = j
    · subst hij
      obtain ⟨⟨x, hx⟩, _⟩ := hB2 i hix
      rw [hx] at hv
      cases hv
      exact ⟨.bool y, by rw [Array.getElem?_setIfInBounds_self_of_lt (Array.getElem?_eq_some_iff.1 hx).1], .inr (.inr ⟨rfl, by omega, ⟨x, rfl⟩, ⟨y, rfl⟩⟩)⟩
    · exact ⟨v, by rw [Array.getElem?_setIfInBounds_ne hij]; exact hv, .inl rfl⟩
  · exact ⟨A, by rw [Below.heap_setCell _ _ _ _ hg]; exact h3, fun _ v hv => ⟨v, hv, .inl rfl⟩⟩
/-- A ROW OF TREES' STRUCTS within the bounds. -/
def TreeRow (w : World) (lo hi : Nat) (v : Value) (xs : List TV) : Prop :=
  ∃ (a : Option Addr) (g cap : Nat), v = .slice a xs.length cap ∧ xs.length ≤ cap ∧ cap ≤ maxLen ∧ (0 < xs.length → a = some ⟨g, 0, none⟩ ∧ lo ≤ g ∧ g < hi ∧ TBlk w g xs)
theorem TreeRow.mk {lo hi : Nat} {w w' : World} {v : Value} {xs : List TV} (h : TreeRow w lo hi v xs) (k : Mk lo hi w w') : TreeRow w' lo hi v xs := by
  obtain ⟨a, g, cap, h1, h2, h3, h4⟩ := h
  exact ⟨a, g, cap, h1, h2, h3, fun hn => by obtain ⟨q1, q2, q3, q5⟩ := h4 hn; exact ⟨q1, q2, q3, q5.mk k q2 q3⟩⟩

/-- A TREE WITHIN THE BOUNDS, whatever its numbers and flags are. -/
def WkTree : Nat → World → Nat → Nat → TV → Tr → Prop
  | 0, _, _, _, _, _ => False
  | n + 1, w, lo, hi, x, T => IntRow w lo hi x.p T.pairs.length 2 ∧ IntRow w lo hi x.c T.cuts.length 1 ∧ IntRow w lo hi x.b T.buf.length 3 ∧
      ∃ xs : List TV, xs.length = T.kids.length ∧ TreeRow w lo hi x.k xs ∧ ∀ i, i < xs.length → WkTree n w lo hi (tvAt xs i) (T.kids.getD i noTr)
def WkTrees (n : Nat) (w : World) (lo hi : Nat) (v : Value) (ts : List Tr) : Prop :=
  ∃ xs : List TV, xs.length = ts.length ∧ TreeRow w lo hi v xs ∧ ∀ i, i < xs.length → WkTree n w lo hi (tvAt xs i) (ts.getD i noTr)
theorem WkTree.mk : ∀ {n : Nat} {w w' : World} {lo hi : Nat} {x : TV} {T : Tr}, WkTree n w lo hi x T → Mk lo hi w w' → WkTree n w' lo hi x T
  | 0, _, _, _, _, _, _, h, _ => h
  | _ + 1, _, _, _, _, _, _, ⟨h1, h2, h3, xs, h4, h5, h6⟩, k => ⟨h1.mk k, h2.mk k, h3.mk k, xs, h4, h5.mk k, fun i hi => (h6 i hi).mk k⟩

/-- how many marks -/
def mkT : Nat → Tr → Nat
  | 0, _ => 0
  | n + 1, T => 2 * T.pairs.length + T.cuts.length + (T.kids.length + (T.kids.map (mkT n)).sum) + 3 * T.buf.length
def mkTo (n : Nat) (ts : List Tr) (i : Nat) : Nat := i + ((ts.take i).map (mkT n)).sum
def mkTs (n : Nat) (ts : List Tr) : Nat := ts.length + (ts.map (mkT n)).sum
theorem mkTo_succ (n : Nat) (ts : List Tr) (i : Nat) (h : i < ts.length) : mkTo n ts (i + 1) = mkTo n ts i + (1 + mkT n (ts.getD i noTr)) := by
  rw [mkTo, mkTo, List.take_succ_eq_append_getElem h, List.map_append, List.sum_append]
  simp [List.getD, h]
  omega
theorem mkTo_full (n : Nat) (ts : List Tr) : mkTo n ts ts.length = mkTs n ts := by simp [mkTo, mkTs]
theorem mkTo_le (n : Nat) (ts : List Tr) (i : Nat) (hi : i ≤ ts.length) : mkTo n ts i ≤ mkTs n ts := by
  have h : (ts.map (mkT n)).sum = ((ts.take i).map (mkT n)).sum + ((ts.drop i).map (mkT n)).sum := by
    rw [← List.sum_append, ← List.map_append, List.take_append_drop]
  rw [mkTo, mkTs, h]
  omega
theorem mkT_le : ∀ (n : Nat) (T : Tr), mkT n T ≤ 3 * sizeT n T
  | 0, _ => Nat.zero_le _
  | n + 1, T => by
    have : ∀ ts : List Tr, (ts.map (mkT n)).sum ≤ 3 * (ts.map (sizeT n)).sum := fun ts => by
      induction ts with
      | nil => simp
      | cons t ts ih =>
        have := mkT_le n t
        simp only [List.map_cons, List.sum_cons]
        omega
    have := this T.kids
    rw [mkT, sizeT]
    omega

set_option maxHeartbeats 1000000 in
theorem markIntS_w (v : Value) (n : Nat) (k : Int) (w : World) (lo hi : Nat) (h : IntRow w lo hi v n 1) (hk0 : 0 ≤ k) (hk1 : k + n ≤ 1099511627776) :
    Calls Tryd.prog 35 #[v, .int .i64 k] w fun e w' => e = .returned (.int .i64 (k + n)) ∧ Mk lo hi w w' := by
  obtain ⟨a, g, cap, t, rfl, hcap, hmax, ha⟩ := h
  have HA : Hid (0 < n → a = some ⟨g, 0, none⟩ ∧ lo ≤ g ∧ g < hi ∧ t ≠ 32 ∧ Blk w g t (n * 1)) := ha
  unfold maxLen at hmax
  clear ha
  go_enter Tryd.func35, Tryd.ntmps35
  go_wp2
  go_loopw [1, 5] (fun kk i wr => ∃ j : Nat, j ≤ n ∧ i = .int .i64 j ∧ kk = .int .i64 (k + j) ∧ Hid (Mk lo hi w wr)) (fun _ i _ => n - (intOf i).toNat)
  case atStart => exact ⟨0, Nat.zero_le _, rfl, by simp, Mk.refl _ _ _⟩
  case round =>
    obtain ⟨j, hj, rfl, rfl, MK⟩ := hrel
    by_cases hlt : j < n
    · obtain ⟨rfl, h1, h2, h3, h4⟩ := HA.out (by omega)
      have BK : Hid (Blk wr g t (n * 1)) := h4.mk MK.out h1 h2 h3
      obtain ⟨⟨x0, c0⟩, f0⟩ := BK.out.cell (j := j) (by omega)
      have FIN : Hid (Mk lo hi w (wr.setCell ⟨g, j, none⟩ (.int .i64 (k + j)))) := MK.out.setInt BK.out h1 h2 h3 (by omega) _
      clear h4 MK
      go_wp2
      go_roundw
      case rel => exact ⟨j + 1, by omega, by go_num, by go_num, FIN⟩
      case measure => simp [intOf]; omega
    · have hjl : j = n := by omega
      subst hjl
      go_wp2
      go_ret
      exact ⟨rfl, MK.out⟩

set_option maxHeartbeats 1000000 in
theorem markPairS_w (v : Value) (n : Nat) (k : Int) (w : World) (lo hi : Nat) (h : IntRow w lo hi v n 2) (hk0 : 0 ≤ k) (hk1 : k + 2 * n ≤ 1099511627776) :
    Calls Tryd.prog 34 #[v, .int .i64 k] w fun e w' => e = .returned (.int .i64 (k + 2 * n)) ∧ Mk lo hi w w' := by
  obtain ⟨a, g, cap, t, rfl, hcap, hmax, ha⟩ := h
  have HA : Hid (0 < n → a = some ⟨g, 0, none⟩ ∧ lo ≤ g ∧ g < hi ∧ t ≠ 32 ∧ Blk w g t (n * 2)) := ha
  unfold maxLen at hmax
  clear ha
  go_enter Tryd.func34, Tryd.ntmps34
  go_wp2
  go_loopw [1, 5] (fun kk i wr => ∃ j : Nat, j ≤ n ∧ i = .int .i64 j ∧ kk = .int .i64 (k + 2 * j) ∧ Hid (Mk lo hi w wr)) (fun _ i _ => n - (intOf i).toNat)
  case atStart => exact ⟨0, Nat.zero_le _, rfl, by simp, Mk.refl _ _ _⟩
  case round =>
    obtain ⟨j, hj, rfl, rfl, MK⟩ := hrel
    by_cases hlt : j < n
    · obtain ⟨rfl, h1, h2, h3, h4⟩ := HA.out (by omega)
      have BK : Hid (Blk wr g t (n * 2)) := h4.mk MK.out h1 h2 h3
      obtain ⟨⟨x0, c0⟩, f0⟩ := BK.out.cell (j := j * 2) (by omega)
      obtain ⟨⟨x1, c1⟩, f1⟩ := BK.out.cell (j := j * 2 + 1) (by omega)
      have FIN : Hid (Mk lo hi w ((wr.setCell ⟨g, j * 2, none⟩ (.int .i64 (k + 2 * j))).setCell ⟨g, j * 2 + 1, none⟩ (.int .i64 (k + 2 * j + 1)))) := (MK.out.setInt BK.out h1 h2 h3 (by omega) _).setInt (BK.out.set _ _) h1 h2 h3 (by omega) _
      clear h4 MK
      have hb0 : 0 ≤ k + 2 * (j : Int) := by omega
      have hb1 : k + 2 * (j : Int) + 2 ≤ 1099511627776 := by omega
      go_wp2
      go_roundw
      case rel => exact ⟨j + 1, by omega, by go_num, by go_num, FIN⟩
      case measure => simp [intOf]; omega
    · have hjl : j = n := by omega
      subst hjl
      go_wp2
      go_ret
      exact ⟨rfl, MK.out⟩

set_option maxHeartbeats 1000000 in
theorem markMsgS_w (v : Value) (n : Nat) (k : Int) (w : World) (lo hi : Nat) (h : IntRow w lo hi v n 3) (hk0 : 0 ≤ k) (hk1 : k + 3 * n ≤ 1099511627776) :
    Calls Tryd.prog 37 #[v, .int .i64 k] w fun e w' => e = .returned (.int .i64 (k + 3 * n)) ∧ Mk lo hi w w' := by
  obtain ⟨a, g, cap, t, rfl, hcap, hmax, ha⟩ := h
  have HA : Hid (0 < n → a = some ⟨g, 0, none⟩ ∧ lo ≤ g ∧ g < hi ∧ t ≠ 32 ∧ Blk w g t (n * 3)) := ha
  unfold maxLen at hmax
  clear ha
  go_enter Tryd.func37, Tryd.ntmps37
  go_wp2
  go_loopw [1, 5] (fun kk i wr => ∃ j : Nat, j ≤ n ∧ i = .int .i64 j ∧ kk = .int .i64 (k + 3 * j) ∧ Hid (Mk lo hi w wr)) (fun _ i _ => n - (intOf i).toNat)
  case atStart => exact ⟨0, Nat.zero_le _, rfl, by simp, Mk.refl _ _ _⟩
  case round =>
    obtain ⟨j, hj, rfl, rfl, MK⟩ := hrel
    by_cases hlt : j < n
    · obtain ⟨rfl, h1, h2, h3, h4⟩ := HA.out (by omega)
      have BK : Hid (Blk wr g t (n * 3)) := h4.mk MK.out h1 h2 h3
      obtain ⟨⟨x0, c0⟩, f0⟩ := BK.out.cell (j := j * 3) (by omega)
      obtain ⟨⟨x1, c1⟩, f1⟩ := BK.out.cell (j := j * 3 + 1) (by omega)
      obtain ⟨⟨x2, c2⟩, f2⟩ := BK.out.cell (j := j * 3 + 2) (by omega)
      have FIN : Hid (Mk lo hi w (((wr.setCell ⟨g, j * 3, none⟩ (.int .i64 (k + 3 * j))).setCell ⟨g, j * 3 + 1, none⟩ (.int .i64 (k + 3 * j + 1))).setCell ⟨g, j * 3 + 2, none⟩ (.int .i64 (k + 3 * j + 1 + 1)))) := ((MK.out.setInt BK.out h1 h2 h3 (by omega) _).setInt (BK.out.set _ _) h1 h2 h3 (by omega) _).setInt ((BK.out.set _ _).set _ _) h1 h2 h3 (by omega) _
      clear h4 MK
      have hb0 : 0 ≤ k + 3 * (j : Int) := by omega
      have hb1 : k + 3 * (j : Int) + 3 ≤ 1099511627776 := by omega
      go_wp2
      go_roundw
      case rel => exact ⟨j + 1, by omega, by go_num, by go_num, FIN⟩
      case measure => simp [intOf]; omega
    · have hjl : j = n := by omega
      subst hjl
      go_wp2
      go_ret
      exact ⟨rfl, MK.out⟩

def MarkTS (n : Nat) : Prop := ∀ (v : Value) (ts : List Tr) (k : Int) (w : World) (lo hi : Nat), WkTrees n w lo hi v ts → 0 ≤ k → k + (mkTs n ts : Nat) ≤ 1099511627776 →
  Calls Tryd.prog 36 #[v, .int .i64 k] w fun e w' => e = .returned (.int .i64 (k + (mkTs n ts : Nat))) ∧ Mk lo hi w w'

set_option maxHeartbeats 2000000 in
theorem markTS_of (n : Nat) (H : ∀ n', n = n' + 1 → MarkTS n') : MarkTS n := by
  intro v ts k w lo hi hw hk0 hk1
  obtain ⟨xs, hxl, ⟨a, g, cap, rfl, hcap, hmax, ha⟩, hkid⟩ := hw
  have HA : Hid (0 < xs.length → a = some ⟨g, 0, none⟩ ∧ lo ≤ g ∧ g < hi ∧ TBlk w g xs) := ha
  have HK : Hid (∀ i, i < xs.length → WkTree n w lo hi (tvAt xs i) (ts.getD i noTr)) := hkid
  have MS : Hid (∀ i, i < xs.length → mkTo n ts (i + 1) = mkTo n ts i + (1 + mkT n (ts.getD i noTr))) := fun i hi => mkTo_succ n ts i (by omega)
  have ML : Hid (∀ i, i ≤ xs.length → mkTo n ts i ≤ mkTs n ts) := fun i hi => mkTo_le n ts i (by omega)
  have MF : Hid (mkTo n ts xs.length = mkTs n ts) := by
    show _ = _
    rw [hxl, mkTo_full]
  have M0 : Hid (mkTo n ts 0 = 0) := by
    show _ = _
    simp [mkTo]
  unfold maxLen at hmax
  clear ha hkid hxl
  generalize mkTs n ts = TOT at *
  generalize mkTo n ts = fo at *
  have XL : Hid (∀ u : World, ∀ g', TBlk u g' xs → ∀ i, i < xs.length → (∃ b, u.cell? ⟨g', i * 5, none⟩ = some (.bool b)) ∧ u.cell? ⟨g', i * 5 + 1, none⟩ = some (tvAt xs i).p ∧ u.cell? ⟨g', i * 5 + 2, none⟩ = some (tvAt xs i).c ∧ u.cell? ⟨g', i * 5 + 3, none⟩ = some (tvAt xs i).k ∧ u.cell? ⟨g', i * 5 + 4, none⟩ = some (tvAt xs i).b ∧ u.frozen? ⟨g', i * 5, none⟩ = false) := fun u g' h i hi => h.cells hi
  have FL : Hid (∀ (a' b' : World) (g' i : Nat) (y : Bool), Mk lo hi a' b' → TBlk b' g' xs → lo ≤ g' → g' < hi → i < xs.length → Mk lo hi a' (b'.setCell ⟨g', i * 5, none⟩ (.bool y))) := fun a' b' g' i y h hb h1 h2 hi => h.setFlag hb h1 h2 hi y
  generalize hm : xs.length = m at *
  go_enter Tryd.func36, Tryd.ntmps36
  go_wp2
  go_loopw [1, 5] (fun kk i wr => ∃ j : Nat, j ≤ m ∧ i = .int .i64 j ∧ kk = .int .i64 (k + (fo j : Nat)) ∧ Hid (Mk lo hi w wr)) (fun _ i _ => m - (intOf i).toNat)
  case atStart => exact ⟨0, Nat.zero_le _, rfl, by rw [M0.out]; simp, Mk.refl _ _ _⟩
  case round =>
    obtain ⟨j, hj, rfl, rfl, MK⟩ := hrel
    by_cases hlt : j < m
    · obtain ⟨rfl, h1, h2, h4⟩ := HA.out (by omega)
      have TB : Hid (TBlk wr g xs) := h4.mk MK.out h1 h2
      have WT := HK.out j hlt
      have hms := MS.out j hlt
      have hml := ML.out (j + 1) (by omega)
      cases n with
      | zero => exact WT.elim
      | succ n =>
      obtain ⟨w1, w2, w3, w4⟩ := WT
      have W1 : Hid (IntRow w lo hi (tvAt xs j).p (ts.getD j noTr).pairs.length 2) := w1
      have W2 : Hid (IntRow w lo hi (tvAt xs j).c (ts.getD j noTr).cuts.length 1) := w2
      have W3 : Hid (IntRow w lo hi (tvAt xs j).b (ts.getD j noTr).buf.length 3) := w3
      have W4 : Hid (WkTrees n w lo hi (tvAt xs j).k (ts.getD j noTr).kids) := w4
      have HH : Hid (MarkTS n) := H n rfl
      have hme : mkT (n + 1) (ts.getD j noTr) = 2 * (ts.getD j noTr).pairs.length + (ts.getD j noTr).cuts.length + mkTs n (ts.getD j noTr).kids + 3 * (ts.getD j noTr).buf.length := rfl
      rw [hme] at hms
      have MSE : Hid _ := hms
      clear w1 w2 w3 w4 hme h4 H
      obtain ⟨⟨b0, c0⟩, c1, c2, c3, c4, f0⟩ := XL.out wr g TB.out j hlt
      have M1 : Hid (Mk lo hi w (wr.setCell ⟨g, j * 5, none⟩ (.bool ((k + (fo j : Nat)) % 3 == 0)))) := FL.out _ _ _ _ _ MK.out TB.out h1 h2 hlt
      have H1' : Hid (lo ≤ g ∧ g < hi) := ⟨h1, h2⟩
      have HA' : Hid (TBlk w g xs) := (HA.out (by omega)).2.2.2
      have LK : Hid (∀ u : World, Mk lo hi w u → u.cell? ⟨g, j * 5 + 1, none⟩ = some (tvAt xs j).p ∧ u.cell? ⟨g, j * 5 + 2, none⟩ = some (tvAt xs j).c ∧ u.cell? ⟨g, j * 5 + 3, none⟩ = some (tvAt xs j).k ∧ u.cell? ⟨g, j * 5 + 4, none⟩ = some (tvAt xs j).b) := fun u hu => by
        have := XL.out u g (HA'.out.mk hu H1'.out.1 H1'.out.2) j hlt
        exact ⟨this.2.1, this.2.2.1, this.2.2.2.1, this.2.2.2.2.1⟩
      clear h1 h2 TB MK XL FL
      generalize tvAt xs j = y at *
      obtain ⟨yl, yp, yc, yk, yb⟩ := y
      simp only at W1 W2 W3 W4 c1 c2 c3 c4 LK
      generalize (ts.getD j noTr).pairs.length = n1 at *
      generalize (ts.getD j noTr).cuts.length = n2 at *
      generalize (ts.getD j noTr).buf.length = n4 at *
      generalize hk3 : mkTs n (ts.getD j noTr).kids = n3 at *
      have HK3 : Hid _ := hk3
      clear hk3
      have hp0 : 0 ≤ k + (fo j : Int) := by omega
      have hp1 : k + (fo j : Int) + 1 + 2 * n1 + n2 + n3 + 3 * n4 ≤ 1099511627776 := by omega
      clear hms
      have W1' : Hid _ := W1.out.mk M1.out
      go_wp2_with fail
      refine (markPairS_w yp n1 (k + (fo j : Nat) + 1) _ lo hi W1'.out (by omega) (by omega)).mono ?_
      rintro e v1 ⟨rfl, mk1⟩
      have M2 : Hid (Mk lo hi w v1) := M1.out.trans mk1
      obtain ⟨d1, d2, d3, d4⟩ := LK.out v1 M2.out
      have W2' : Hid _ := W2.out.mk M2.out
      clear mk1 c0 c1 c2 c3 c4 f0 M1 W1'
      go_wp2_with fail
      refine (markIntS_w yc n2 (k + (fo j : Nat) + 1 + 2 * (n1 : Int)) _ lo hi W2'.out (by omega) (by omega)).mono ?_
      rintro e v2 ⟨rfl, mk2⟩
      have M3 : Hid (Mk lo hi w v2) := M2.out.trans mk2
      clear d1 d2 d3 d4
      obtain ⟨d1, d2, d3, d4⟩ := LK.out v2 M3.out
      have W4' : Hid (WkTrees n v2 lo hi yk (ts.getD j noTr).kids) := by
        obtain ⟨ys, h1, h2, h3⟩ := W4.out
        exact ⟨ys, h1, h2.mk M3.out, fun i hi => (h3 i hi).mk M3.out⟩
      have HC : Hid (Calls Tryd.prog 36 #[yk, .int .i64 (k + (fo j : Nat) + 1 + 2 * (n1 : Int) + (n2 : Int))] v2 fun e w' => e = .returned (.int .i64 (k + (fo j : Nat) + 1 + 2 * (n1 : Int) + (n2 : Int) + (n3 : Nat))) ∧ Mk lo hi v2 w') := by
        have := HH.out yk (ts.getD j noTr).kids (k + (fo j : Nat) + 1 + 2 * (n1 : Int) + (n2 : Int)) v2 lo hi W4'.out (by omega) (by rw [HK3.out]; omega)
        rw [HK3.out] at this
        exact this
      clear mk2 M2 W2'
      go_wp2_with fail
      refine HC.out.mono ?_
      rintro e v3 ⟨rfl, mk3⟩
      have M4 : Hid (Mk lo hi w v3) := M3.out.trans mk3
      clear d1 d2 d3 d4
      obtain ⟨d1, d2, d3, d4⟩ := LK.out v3 M4.out
      have W3' : Hid _ := W3.out.mk M4.out
      clear mk3 M3 W4' HC
      go_wp2_with fail
      refine (markMsgS_w yb n4 (k + (fo j : Nat) + 1 + 2 * (n1 : Int) + (n2 : Int) + (n3 : Int)) _ lo hi W3'.out (by omega) (by omega)).mono ?_
      rintro e v4 ⟨rfl, mk4⟩
      have M5 : Hid (Mk lo hi w v4) := M4.out.trans mk4
      clear mk4 d1 d2 d3 d4 M4 W3'
      go_wp2
      go_roundw
      case rel => exact ⟨j + 1, by omega, by go_num, by rw [MSE.out]; congr 1; omega, M5⟩
      case measure => simp [intOf]; omega
    · have hjl : j = m := by omega
      subst hjl
      have E : Hid (fo j = TOT) := MF
      go_wp2
      go_ret
      exact ⟨ret_int (by rw [E.out]), MK.out⟩

theorem markTS_any : ∀ n, MarkTS n
  | 0 => markTS_of 0 (fun _ h => by cases h)
  | n + 1 => markTS_of (n + 1) (fun n' h => by cases h; exact markTS_any n)

set_option maxHeartbeats 1000000 in
theorem markTree_w (n : Nat) (x : TV) (T : Tr) (k : Int) (w : World) (lo hi : Nat) (ht : WkTree n w lo hi x T) (hhi : hi ≤ w.heap.size) (hk0 : 0 ≤ k) (hk1 : k + (mkT n T : Nat) ≤ 1099511627776) :
    Calls Tryd.prog 12 #[x.val, .int .i64 k] w fun e w' => e = .returned (.int .i64 (k + (mkT n T : Nat))) ∧ Mk lo hi w w' := by
  cases n with
  | zero => exact ht.elim
  | succ n =>
  obtain ⟨lf, p, c, kk, b⟩ := x
  obtain ⟨w1, w2, w3, w4⟩ := ht
  have W1 : Hid (IntRow w lo hi p T.pairs.length 2) := w1
  have W2 : Hid (IntRow w lo hi c T.cuts.length 1) := w2
  have W3 : Hid (IntRow w lo hi b T.buf.length 3) := w3
  have W4 : Hid (WkTrees n w lo hi kk T.kids) := w4
  have hme : mkT (n + 1) T = 2 * T.pairs.length + T.cuts.length + mkTs n T.kids + 3 * T.buf.length := rfl
  have MA : Hid (Mk lo hi w (w.alloc (.cells #[.bool lf, p, c, kk, b] 32))) := (Mk.refl _ _ _).alloc _
  have BX : Hid (w.heap.size < (w.alloc (.cells #[.bool lf, p, c, kk, b] 32)).heap.size) := by
    show _ < _
    rw [World.size_alloc]; omega
  have SA : Hid (∀ u, Mk lo hi (w.alloc (.cells #[.bool lf, p, c, kk, b] 32)) u → ∀ j, u.cell? ⟨w.heap.size, j, none⟩ = #[Value.bool lf, p, c, kk, b][j]?) := fun u hu j => by
    have h1 : u.heap[w.heap.size]? = some (.cells #[.bool lf, p, c, kk, b] 32 (0, 0)) :=
      (hu.chg.block w.heap.size BX.out (fun h => by omega)).trans (heap_alloc_new w _)
    exact cell_of_row u w.heap.size j _ 32 (0, 0) h1
  rw [hme] at hk1 ⊢
  clear w1 w2 w3 w4 hme
  have W1' : Hid _ := W1.out.mk MA.out
  have k0 := SA.out _ (Mk.refl _ _ _)
  generalize hk3 : mkTs n T.kids = n3 at *
  have HK3 : Hid _ := hk3
  clear hk3
  generalize T.pairs.length = n1 at *
  generalize T.cuts.length = n2 at *
  generalize T.buf.length = n4 at *
  have hp1 : k + 2 * n1 + n2 + n3 + 3 * n4 ≤ 1099511627776 := by omega
  have FE : Hid (k + 2 * (n1 : Int) + (n2 : Int) + (n3 : Int) + 3 * (n4 : Int) = k + ((2 * n1 + n2 + n3 + 3 * n4 : Nat) : Int)) := by
    show _ = _
    omega
  show Calls Tryd.prog 12 #[.agg #[.bool lf, p, c, kk, b], .int .i64 k] w _
  go_enter Tryd.func12, Tryd.ntmps12
  go_wp2_with fail
  refine (markPairS_w p n1 k _ lo hi W1'.out (by omega) (by omega)).mono ?_
  rintro e v1 ⟨rfl, mk1⟩
  have N1 : Hid _ := mk1
  have M1 : Hid (Mk lo hi w v1) := MA.out.trans mk1
  have W2' : Hid _ := W2.out.mk M1.out
  clear k0 mk1 W1'
  have k0 := SA.out _ N1.out
  go_wp2_with fail
  refine (markIntS_w c n2 (k + 2 * (n1 : Int)) _ lo hi W2'.out (by omega) (by omega)).mono ?_
  rintro e v2 ⟨rfl, mk2⟩
  have N2 : Hid _ := N1.out.trans mk2
  have M2 : Hid (Mk lo hi w v2) := MA.out.trans N2.out
  have W4' : Hid (WkTrees n v2 lo hi kk T.kids) := by
    obtain ⟨ys, h1, h2, h3⟩ := W4.out
    exact ⟨ys, h1, h2.mk M2.out, fun i hi => (h3 i hi).mk M2.out⟩
  have HC : Hid (Calls Tryd.prog 36 #[kk, .int .i64 (k + 2 * (n1 : Int) + (n2 : Int))] v2 fun e w' => e = .returned (.int .i64 (k + 2 * (n1 : Int) + (n2 : Int) + (n3 : Nat))) ∧ Mk lo hi v2 w') := by
    have := markTS_any n kk T.kids (k + 2 * (n1 : Int) + (n2 : Int)) v2 lo hi W4'.out (by omega) (by rw [HK3.out]; omega)
    rw [HK3.out] at this
    exact this
  clear k0 mk2 W2' N1 M1
  have k0 := SA.out _ N2.out
  go_wp2_with fail
  refine HC.out.mono ?_
  rintro e v3 ⟨rfl, mk3⟩
  have N3 : Hid _ := N2.out.trans mk3
  have M3 : Hid (Mk lo hi w v3) := MA.out.trans N3.out
  have W3' : Hid _ := W3.out.mk M3.out
  clear k0 mk3 W4' HC N2 M2
  have k0 := SA.out _ N3.out
  go_wp2_with fail
  refine (markMsgS_w b n4 (k + 2 * (n1 : Int) + (n2 : Int) + (n3 : Int)) _ lo hi W3'.out (by omega) (by omega)).mono ?_
  rintro e v4 ⟨rfl, mk4⟩
  have M4 : Hid (Mk lo hi w v4) := M3.out.trans mk4
  clear k0 mk4 W3' N3 M3
  go_wp2
  go_ret
  exact ⟨ret_int FE.out, M4.out⟩

/-- A TREE OF ONE'S OWN stands within the bounds. -/
theorem IntRow.of_owns {w : World} {base e size n : Nat} {v : Value} {xs : List Value} (h : w.ownsRow base e size v n xs) (he : e ≠ 32) (hx : ∀ y ∈ xs, ∃ x, y = .int .i64 x) : IntRow w base w.heap.size v n size := by
  have h0 := h
  obtain ⟨hl, h | ⟨g, cap, cur, rfl, hg, hh, hn, hcap, hsz, htake⟩⟩ := h
  · obtain ⟨rfl, rfl⟩ := h
    exact ⟨none, 0, 0, e, rfl, Nat.le_refl _, Nat.zero_le _, fun h => absurd h (Nat.lt_irrefl _)⟩
  · refine ⟨some ⟨g, 0, none⟩, g, cap, e, rfl, hn, hcap, fun _ => ⟨rfl, hg, (Array.getElem?_eq_some_iff.1 hh).1, he, cur, hh, fun j hj => ?_⟩⟩
    have h1 := h0.cellAt j hj
    rw [cell_of_row w g j cur e (0, 0) hh] at h1
    have h2 : j < xs.length := by omega
    rw [List.getElem?_eq_getElem h2] at h1
    obtain ⟨x, hx⟩ := hx _ (List.getElem_mem h2)
    exact ⟨x, by rw [h1, hx]⟩
theorem TreeRow.of_owns {w : World} {base : Nat} {v : Value} {ys : List TV} (h : w.ownsRow base 32 5 v ys.length (flatT ys)) : TreeRow w base w.heap.size v ys := by
  have h0 := h
  obtain ⟨hl, h | ⟨g, cap, cur, rfl, hg, hh, hn, hcap, hsz, htake⟩⟩ := h
  · obtain ⟨h1, h2⟩ := h
    exact ⟨none, 0, 0, by rw [h1, h2], by omega, Nat.zero_le _, fun h => by omega⟩
  · refine ⟨some ⟨g, 0, none⟩, g, cap, rfl, hn, hcap, fun _ => ⟨rfl, hg, (Array.getElem?_eq_some_iff.1 hh).1, cur, hh, fun i hi => ?_⟩⟩
    have at' := flatT_at ys i hi
    have c : ∀ j, j < ys.length * 5 → cur[j]? = (flatT ys)[j]? := fun j hj => by
      have h1 := h0.cellAt j hj
      rw [cell_of_row w g j cur 32 (0, 0) hh] at h1
      exact h1
    exact ⟨⟨_, (c _ (by omega)).trans at'.1⟩, (c _ (by omega)).trans at'.2.1, (c _ (by omega)).trans at'.2.2.1, (c _ (by omega)).trans at'.2.2.2.1, (c _ (by omega)).trans at'.2.2.2.2⟩
theorem flatI_int (l : List Int) : ∀ y ∈ flatI l, ∃ x, y = .int .i64 x := fun y hy => by
  obtain ⟨x, _, rfl⟩ := List.mem_map.1 hy
  exact ⟨x, rfl⟩
theorem flatP_int (l : List (Int × Int)) : ∀ y ∈ flatP l, ∃ x, y = .int .i64 x := fun y hy => by
  obtain ⟨p, _, h⟩ := List.mem_flatMap.1 hy
  simp at h
  rcases h with rfl | rfl <;> exact ⟨_, rfl⟩
theorem flatM_int (l : ML) : ∀ y ∈ flatM l, ∃ x, y = .int .i64 x := fun y hy => by
  obtain ⟨p, _, h⟩ := List.mem_flatMap.1 hy
  simp at h
  rcases h with rfl | rfl | rfl <;> exact ⟨_, rfl⟩
theorem WkTree.of_own : ∀ {n : Nat} {w : World} {base : Nat} {x : TV} {T : Tr}, TreeOwn n w base x T → WkTree n w base w.heap.size x T
  | 0, _, _, _, _, h => h
  | n + 1, w, base, x, T, h => by
    obtain ⟨_, h2, h3, h4, xs, h5, h6, h7⟩ := h
    exact ⟨IntRow.of_owns h2 (by decide) (flatP_int _), IntRow.of_owns h3 (by decide) (flatI_int _), IntRow.of_owns h4 (by decide) (flatM_int _), xs, h5, TreeRow.of_owns h6, fun i hi => WkTree.of_own (h7 i hi)⟩

end Go.Proofs.YtckphbmlmjlipaaDoor
