/-
  A disk: its pages (strings) and its supers, as two rows behind one struct; the laws' functions on it.
-/
import Derived.Test.YtmpngehhojlmmaaWritsD
namespace Go.Proofs.Ytmpngehhojlmmaa
open Go.RowKit

abbrev PL := List ByteArray
abbrev SL := List (Int × Int)
/-- the struct of the slices vp, vs leads to the pages P and the supers S -/
def DiskRow (w : World) (v : Value) (P : PL) (S : SL) : Prop := ∃ vp vs, v = .agg #[vp, vs] ∧ Row w vp P.length (flatS P) ∧ Row w vs S.length (flatP S)
/-- and these are memory of its own, from the block base on -/
def DiskOwn (w : World) (base : Nat) (v : Value) (P : PL) (S : SL) : Prop := ∃ vp vs, v = .agg #[vp, vs] ∧ w.ownsRow base 9 1 vp P.length (flatS P) ∧ w.ownsRow base 33 2 vs S.length (flatP S)
theorem DiskRow.below {w w' : World} {v : Value} {P : PL} {S : SL} (h : DiskRow w v P S) (hb : Below w.heap.size w w') : DiskRow w' v P S := by
  obtain ⟨vp, vs, rfl, h1, h2⟩ := h
  exact ⟨vp, vs, rfl, h1.below hb, h2.below hb⟩
theorem DiskOwn.below {w w' : World} {base : Nat} {v : Value} {P : PL} {S : SL} (h : DiskOwn w base v P S) (hb : Below w.heap.size w w') : DiskOwn w' base v P S := by
  obtain ⟨vp, vs, rfl, h1, h2⟩ := h
  exact ⟨vp, vs, rfl, owns_below h1 hb, owns_below h2 hb⟩
theorem DiskOwn.mono {w : World} {base base' : Nat} {v : Value} {P : PL} {S : SL} (h : DiskOwn w base v P S) (hb : base' ≤ base) : DiskOwn w base' v P S := by
  obtain ⟨vp, vs, rfl, h1, h2⟩ := h
  exact ⟨vp, vs, rfl, owns_mono h1 hb, owns_mono h2 hb⟩
theorem DiskOwn.row {w : World} {base : Nat} {v : Value} {P : PL} {S : SL} (h : DiskOwn w base v P S) : DiskRow w v P S := by
  obtain ⟨vp, vs, rfl, h1, h2⟩ := h
  exact ⟨vp, vs, rfl, Row.of_owns h1, Row.of_owns h2⟩
/-- the blocks of a disk -/
def dBlk (v : Value) (g : Nat) : Prop := ∃ vp vs, v = .agg #[vp, vs] ∧ (vp.ownBlock = some g ∨ vs.ownBlock = some g)
theorem DiskOwn.lt {w : World} {base : Nat} {v : Value} {P : PL} {S : SL} (h : DiskOwn w base v P S) {g : Nat} (hg : dBlk v g) : base ≤ g ∧ g < w.heap.size := by
  obtain ⟨vp, vs, rfl, h1, h2⟩ := h
  obtain ⟨vp', vs', e, hg⟩ := hg
  simp at e
  obtain ⟨rfl, rfl⟩ := e
  rcases hg with hg | hg
  · exact h1.lt g hg
  · exact h2.lt g hg
theorem DiskOwn.chg {F : Nat → Prop} {w w' : World} {base : Nat} {v : Value} {P : PL} {S : SL} (h : DiskOwn w base v P S) (hc : Chg F w w') (hF : ∀ g, dBlk v g → ¬ F g) : DiskOwn w' base v P S := by
  obtain ⟨vp, vs, rfl, h1, h2⟩ := h
  exact ⟨vp, vs, rfl, owns_chg h1 hc (fun g hg => hF g ⟨vp, vs, rfl, Or.inl hg⟩), owns_chg h2 hc (fun g hg => hF g ⟨vp, vs, rfl, Or.inr hg⟩)⟩
/-- a row of strings and a row of supers never share a block -/
theorem blk_ne {w : World} {b1 b2 n m : Nat} {vp vs : Value} {xs ys : List Value} (h1 : w.ownsRow b1 9 1 vp n xs) (h2 : w.ownsRow b2 33 2 vs m ys) {g : Nat} (hp : vp.ownBlock = some g) : ¬ vs.ownBlock = some g := by
  intro hs
  obtain ⟨_, c1, e1⟩ := owns_lt h1 hp
  obtain ⟨_, c2, e2⟩ := owns_lt h2 hs
  rw [e1] at e2
  simp at e2

def szD (P : PL) (S : SL) (left : Int) : Int := if szSall P left < 0 then -1 else if (S.length : Int) ≤ szSall P left then szSall P left - S.length else -1
theorem szSall_le (l : List ByteArray) (left : Int) (h : 0 ≤ left) : szSall l left ≤ left := by
  unfold szSall
  split
  · omega
  · have := szS_le l (left - l.length) (by omega); omega
theorem szSall_len {l : List ByteArray} {left : Int} (h : 0 ≤ szSall l left) : (l.length : Int) + szSall l left ≤ left := by
  unfold szSall at h ⊢
  split
  · rename_i hc; rw [if_pos hc] at h; omega
  · have := szS_le l (left - l.length) (by omega); omega
theorem szD_len {P : PL} {S : SL} {left : Int} (h : 0 ≤ szD P S left) : (P.length : Int) + S.length + szD P S left ≤ left := by
  unfold szD at h ⊢
  by_cases h1 : szSall P left < 0
  · rw [if_pos h1] at h; omega
  · rw [if_neg h1] at h ⊢
    by_cases h2 : (S.length : Int) ≤ szSall P left
    · rw [if_pos h2] at h ⊢
      have := szSall_len (l := P) (left := left) (by omega)
      omega
    · rw [if_neg h2] at h; omega

set_option maxHeartbeats 400000 in
theorem szDisk_any (v : Value) (P : PL) (S : SL) (left : Int) (w : World) (hr : DiskRow w v P S) (hz : ∀ s ∈ P, s.size ≤ maxLen) (hl : 0 ≤ left) (hl2 : left ≤ 1048576) :
    Calls Try.prog 13 #[v, .int .i64 left] w fun e w' => e = .returned (.int .i64 (szD P S left)) ∧ Below w.heap.size w w' := by
  obtain ⟨vp, vs, rfl, h1, h2⟩ := hr
  have hle := szSall_le P left hl
  have hm : S.length ≤ maxLen := by obtain ⟨a, b, off, cap, _, q1, q2, _⟩ := h2; omega
  obtain ⟨a, b, off, cap, hv, _⟩ := h2
  subst hv
  have R1 : Hid _ := h1.below (bel_al (w := w) (Below.refl _ _) (.cells #[vp, .slice a S.length cap] 42))
  clear h1
  go_enter Try.func13, Try.ntmps13
  go_wp2_with fail
  refine (szStringS_any vp P left _ R1.out hz hl hl2).mono ?_
  rintro e w1 ⟨rfl, hw1⟩
  subst hw1
  have SD : Hid (szD P S left = if szSall P left < 0 then -1 else if (S.length : Int) ≤ szSall P left then szSall P left - S.length else -1) := rfl
  generalize szSall P left = x at *
  by_cases hx : x < 0
  · rw [if_pos hx] at SD
    go_wp2
    go_ret
    exact ⟨ret_int SD.out.symm, bel_al (Below.refl _ _) _⟩
  · rw [if_neg hx] at SD
    go_wp2_with fail
    refine (szSuperS_any a S.length cap x hm (by omega) (by omega) _).mono ?_
    rintro e w1 ⟨rfl, hw1⟩
    subst hw1
    by_cases hc : (S.length : Int) ≤ x
    · rw [if_pos hc] at SD ⊢
      go_wp2
      go_ret
      exact ⟨ret_int SD.out.symm, bel_al (Below.refl _ _) _⟩
    · rw [if_neg hc] at SD ⊢
      go_wp2
      go_ret
      exact ⟨ret_int SD.out.symm, bel_al (Below.refl _ _) _⟩

theorem al_size (w : World) (A : Obj) : (w.alloc A).heap.size = w.heap.size + 1 := by simp
theorem al3 (w : World) (A B C : Obj) : (((w.alloc A).alloc B).alloc C).heap[w.heap.size]? = some A ∧ (((w.alloc A).alloc B).alloc C).heap[w.heap.size + 1]? = some B ∧ (((w.alloc A).alloc B).alloc C).heap[w.heap.size + 1 + 1]? = some C := by
  have s1 := al_size w A
  have s2 := al_size (w.alloc A) B
  have n1 := heap_alloc_new w A
  have n2 := heap_alloc_new (w.alloc A) B
  have n3 := heap_alloc_new ((w.alloc A).alloc B) C
  have k2 := fun (k : Nat) (h : k < (w.alloc A).heap.size) => (bel_al (w := w.alloc A) (Below.refl _ _) B).block k h
  have k3 := fun (k : Nat) (h : k < ((w.alloc A).alloc B).heap.size) => (bel_al (w := (w.alloc A).alloc B) (Below.refl _ _) C).block k h
  rw [s1] at n2
  rw [s2, s1] at n3
  refine ⟨?_, ?_, n3⟩
  · rw [k3 _ (by omega), k2 _ (by omega), n1]
  · rw [k3 _ (by omega), n2]

set_option maxHeartbeats 400000 in
theorem toDisk_any (v : Value) (P : PL) (S : SL) (w : World) (hr : DiskRow w v P S) (hP : P.length ≤ 1048576) (hS : S.length ≤ 1048576) :
    Calls Try.prog 15 #[v] w fun e w' => ∃ v', e = .returned v' ∧ DiskOwn w' w.heap.size v' P S ∧ Below w.heap.size w w' := by
  obtain ⟨vp, vs, rfl, h1, h2⟩ := hr
  generalize hW : ((w.alloc (.cells #[vp, vs] 42)).alloc (.cells #[.slice none 0 0, .slice none 0 0] 27)).alloc (.cells #[.slice none 0 0, .slice none 0 0] 27) = W
  have bW : Below w.heap.size w W := by rw [← hW]; exact bel_al (bel_al (bel_al (Below.refl _ _) _) _) _
  have sW : W.heap.size = w.heap.size + 1 + 1 + 1 := by rw [← hW]; simp
  obtain ⟨a0, a1, a2⟩ := al3 w (.cells #[vp, vs] 42) (.cells #[.slice none 0 0, .slice none 0 0] 27) (.cells #[.slice none 0 0, .slice none 0 0] 27)
  rw [hW] at a0 a1 a2
  have R1 := h1.below bW
  have R2 : Hid (Row w vs S.length (flatP S)) := h2
  have HW : Hid _ := hW
  have B0 : Hid _ := And.intro bW (And.intro sW (And.intro a0 (And.intro a1 a2)))
  clear bW sW a0 a1 a2 h1 h2 hW
  go_enter Try.func15, Try.ntmps15
  go_wp2_with fail
  rw [HW.out]
  refine (toStringS_any vp P W R1 hP).mono ?_
  rintro e w1 ⟨v1, rfl, o1, b1⟩
  obtain ⟨ad1, q1, rfl⟩ := owns_val o1
  obtain ⟨bW, sW, a0, a1, a2⟩ := B0.out
  have a0' := (b1.block _ (by omega)).trans a0
  have a1' := (b1.block _ (by omega)).trans a1
  have a2' := (b1.block _ (by omega)).trans a2
  have s1 := b1.size
  have c1 : w1.cell? ⟨w.heap.size, 1, none⟩ = some vs := cell_of_cells a0'
  have c2 : w1.cell? ⟨w.heap.size + 1 + 1, 0, none⟩ = some (.slice none 0 0) := cell_of_cells a2'
  have f2 : w1.frozen? ⟨w.heap.size + 1 + 1, 0, none⟩ = false := frozen_of_cells a2'
  have a2'' := heap_setCell_same w1 (w.heap.size + 1 + 1) 0 _ _ (.slice ad1 P.length q1) a2'
  have a1'' := (heap_setCell_other w1 ⟨w.heap.size + 1 + 1, 0, none⟩ (w.heap.size + 1) (.slice ad1 P.length q1) (by simp)).trans a1'
  have BS : Below w.heap.size w (w1.setCell ⟨w.heap.size + 1 + 1, 0, none⟩ (.slice ad1 P.length q1)) := (Below.and bW b1).setCell (p := ⟨w.heap.size + 1 + 1, 0, none⟩) (by show w.heap.size ≤ w.heap.size + 1 + 1; omega) (.slice ad1 P.length q1)
  have ss : (w1.setCell ⟨w.heap.size + 1 + 1, 0, none⟩ (.slice ad1 P.length q1)).heap.size = w1.heap.size := by simp
  have R2' := R2.out.below BS
  have I1 : Hid _ := And.intro o1 (And.intro BS (And.intro a1'' (And.intro a2'' (And.intro ss (And.intro s1 sW)))))
  clear bW sW a0 a1 a2 a0' a1' a2' a1'' a2'' BS ss o1 b1 s1 B0 HW R1
  go_wp2_with fail
  refine (toSuperS_any vs S _ R2' hS).mono ?_
  rintro e w2 ⟨v2, rfl, o2, b2⟩
  obtain ⟨ad2, q2, rfl⟩ := owns_val o2
  obtain ⟨o1, BS, a1, a2, ss, s1, sW⟩ := I1.out
  have a1' := (b2.block _ (by omega)).trans a1
  have a2' := (b2.block _ (by omega)).trans a2
  have c3 : w2.cell? ⟨w.heap.size + 1 + 1, 0, none⟩ = some (.slice ad1 P.length q1) := cell_of_cells a2'
  have c4 : w2.cell? ⟨w.heap.size + 1 + 1, 1, none⟩ = some (.slice none 0 0) := cell_of_cells a2'
  have f4 : w2.frozen? ⟨w.heap.size + 1 + 1, 1, none⟩ = false := frozen_of_cells a2'
  have c5 : w2.cell? ⟨w.heap.size + 1, 0, none⟩ = some (.slice none 0 0) := cell_of_cells a1'
  have c6 : w2.cell? ⟨w.heap.size + 1, 1, none⟩ = some (.slice none 0 0) := cell_of_cells a1'
  have f5 : w2.frozen? ⟨w.heap.size + 1, 0, none⟩ = false := frozen_of_cells a1'
  have f6 : w2.frozen? ⟨w.heap.size + 1, 1, none⟩ = false := frozen_of_cells a1'
  have a2'' := heap_setCell_same w2 (w.heap.size + 1 + 1) 1 _ _ (.slice ad2 S.length q2) a2'
  have B2 : Below w.heap.size w w2 := BS.trans (b2.mono (by omega))
  have I2 : Hid _ := And.intro o1 (And.intro o2 (And.intro B2 (And.intro b2 (And.intro ss (And.intro s1 sW)))))
  clear o1 BS a1 a2 ss s1 sW a1' a2' B2 o2 b2 I1 R2 R2' c1 c2 f2 a2''
  go_wp2
  obtain ⟨o1, o2, B2, b2, ss, s1, sW⟩ := I2.out
  have ch2 : Chg (fun g => g = w.heap.size + 1 ∨ g = w.heap.size + 1 + 1) w2 (((w2.setCell ⟨w.heap.size + 1 + 1, 1, none⟩ (.slice ad2 S.length q2)).setCell ⟨w.heap.size + 1, 0, none⟩ (.slice ad1 P.length q1)).setCell ⟨w.heap.size + 1, 1, none⟩ (.slice ad2 S.length q2)) :=
    (((Chg.refl _ _).setAt _ _ (Or.inr rfl) _).setAt _ _ (Or.inl rfl) _).setAt _ _ (Or.inl rfl) _
  have ch1 : Chg (fun g => g = w.heap.size + 1 ∨ g = w.heap.size + 1 + 1) w1 w2 := ((Chg.refl _ _).setAt (w.heap.size + 1 + 1) 0 (Or.inr rfl) (.slice ad1 P.length q1)).trans (Chg.of_below b2) (fun _ _ e => e)
  have l1 : ∀ g, (Value.slice ad1 P.length q1).ownBlock = some g → ¬ (g = w.heap.size + 1 ∨ g = w.heap.size + 1 + 1) := fun g hg => by have := (o1.lt g hg).1; omega
  have l2 : ∀ g, (Value.slice ad2 S.length q2).ownBlock = some g → ¬ (g = w.heap.size + 1 ∨ g = w.heap.size + 1 + 1) := fun g hg => by have := (o2.lt g hg).1; omega
  refine bodyPost_ret (v := .agg #[.slice ad1 P.length q1, .slice ad2 S.length q2]) (by simp [results, Try.results15, go_sem, c5, c6]) rfl ⟨_, rfl, ⟨_, _, rfl, ?_, ?_⟩, ?_⟩
  · exact owns_mono (owns_chg (owns_chg o1 ch1 l1) ch2 l1) (by omega)
  · exact owns_mono (owns_chg o2 ch2 l2) (by omega)
  · exact ((B2.setCell (p := ⟨w.heap.size + 1 + 1, 1, none⟩) (by show w.heap.size ≤ w.heap.size + 1 + 1; omega) _).setCell (p := ⟨w.heap.size + 1, 0, none⟩) (by show w.heap.size ≤ w.heap.size + 1; omega) _).setCell (p := ⟨w.heap.size + 1, 1, none⟩) (by show w.heap.size ≤ w.heap.size + 1; omega) _

set_option maxHeartbeats 400000 in
theorem eqDisk_any (v1 v2 : Value) (P P' : PL) (S S' : SL) (w : World) (h1 : DiskRow w v1 P S) (h2 : DiskRow w v2 P' S') :
    Calls Try.prog 17 #[v1, v2] w fun e w' => e = .returned (.bool (decide (P = P') && decide (S = S'))) ∧ Below w.heap.size w w' := by
  obtain ⟨vp, vs, rfl, r1, r2⟩ := h1
  obtain ⟨vp', vs', rfl, r3, r4⟩ := h2
  generalize hW : (w.alloc (.cells #[vp, vs] 27)).alloc (.cells #[vp', vs'] 27) = W
  have bW : Below w.heap.size w W := by rw [← hW]; exact bel_al (bel_al (Below.refl _ _) _) _
  obtain ⟨a0, a1, _⟩ := al3 w (.cells #[vp, vs] 27) (.cells #[vp', vs'] 27) (.cells #[] 0)
  have sW : W.heap.size = w.heap.size + 1 + 1 := by rw [← hW]; simp
  rw [hW] at a0 a1
  have a0' := ((bel_al (w := W) (Below.refl _ _) (.cells #[] 0)).block w.heap.size (by omega)).symm.trans a0
  have a1' := ((bel_al (w := W) (Below.refl _ _) (.cells #[] 0)).block (w.heap.size + 1) (by omega)).symm.trans a1
  have q1 := r1.below bW
  have q3 := r3.below bW
  have HW : Hid _ := hW
  have I : Hid _ := And.intro bW (And.intro sW (And.intro a0' (And.intro a1' (And.intro r2 r4))))
  clear hW bW sW a0 a1 a0' a1' r1 r2 r3 r4
  go_enter Try.func17, Try.ntmps17
  go_wp2_with fail
  rw [HW.out]
  refine (eqStringS_any vp vp' P P' W q1 q3).mono ?_
  rintro e w1 ⟨rfl, b1⟩
  obtain ⟨bW, sW, a0, a1, r2, r4⟩ := I.out
  have a0' := (b1.block _ (by omega)).trans a0
  have a1' := (b1.block _ (by omega)).trans a1
  have c1 : w1.cell? ⟨w.heap.size, 1, none⟩ = some vs := cell_of_cells a0'
  have c2 : w1.cell? ⟨w.heap.size + 1, 1, none⟩ = some vs' := cell_of_cells a1'
  have B1 := Below.and bW b1
  have q2 := r2.below B1
  have q4 := r4.below B1
  have HB : Hid _ := B1
  clear bW sW a0 a1 r2 r4 a0' a1' B1 b1 I HW q1 q3
  by_cases hp : P = P'
  · have hd : decide (P = P') = true := decide_eq_true hp
    have E : Hid ((decide (P = P') && decide (S = S')) = decide (S = S')) := by rw [hd]; exact Bool.true_and _
    rw [hd]
    clear hp hd
    go_wp2_with fail
    refine (eqSuperS_any vs vs' S S' w1 q2 q4).mono ?_
    rintro e w2 ⟨rfl, b2⟩
    have HB2 : Hid _ := Below.and HB.out b2
    clear b2 q2 q4 c1 c2 HB
    generalize hs : decide (S = S') = d
    have HD : Hid _ := hs
    clear hs
    cases d
    · go_wp2
      go_ret
      exact ⟨ret_bool (by rw [E.out, HD.out]), HB2.out⟩
    · go_wp2
      go_ret
      exact ⟨ret_bool (by rw [E.out, HD.out]), HB2.out⟩
  · have hd : decide (P = P') = false := decide_eq_false hp
    have E : Hid ((decide (P = P') && decide (S = S')) = false) := by rw [hd]; exact Bool.false_and _
    rw [hd]
    clear hp hd
    go_wp2
    go_ret
    exact ⟨ret_bool E.out.symm, HB.out⟩

set_option maxHeartbeats 400000 in
theorem markDisk_any (v : Value) (P : PL) (S : SL) (k : Int) (w : World) (h : DiskOwn w 0 v P S) (hP : P.length ≤ 1048576) (hS : S.length ≤ 1048576) (hk0 : 0 < k) (hk1 : k ≤ 1000000) :
    Calls Try.prog 19 #[v, .int .i64 k] w fun e w' => e = .returned (.int .i64 (k + P.length + 2 * S.length)) ∧ DiskOwn w' 0 v (marksS k P.length) (marksP (k + P.length) S.length) ∧ Chg (dBlk v) w w' := by
  obtain ⟨vp, vs, rfl, o1, o2⟩ := h
  generalize hW : w.alloc (.cells #[vp, vs] 27) = W
  have bW : Below w.heap.size w W := by rw [← hW]; exact bel_al (Below.refl _ _) _
  have sW : W.heap.size = w.heap.size + 1 := by rw [← hW]; simp
  have a0 : W.heap[w.heap.size]? = some (.cells #[vp, vs] 27) := by rw [← hW]; exact heap_alloc_new _ _
  have q1 := owns_below o1 bW
  have q2 := owns_below o2 bW
  have HW : Hid _ := hW
  have I : Hid _ := And.intro bW (And.intro sW (And.intro a0 (And.intro q2 (And.intro o1 o2))))
  clear hW bW sW a0 o1 o2 q2
  go_enter Try.func19, Try.ntmps19
  go_wp2_with fail
  rw [HW.out]
  refine (markStringS_any vp P k W q1 (by omega) hk0 (by omega)).mono ?_
  rintro e w1 ⟨rfl, o1', c1'⟩
  obtain ⟨bW, sW, a0, q2, o1, o2⟩ := I.out
  have ne1 : ¬ vp.ownBlock = some w.heap.size := fun e => by have := (o1.lt _ e).2; omega
  have ne2 : ¬ vs.ownBlock = some w.heap.size := fun e => by have := (o2.lt _ e).2; omega
  have a0' := row_chg a0 c1' ne1
  have c1 : w1.cell? ⟨w.heap.size, 1, none⟩ = some vs := cell_of_cells a0'
  have q2' := owns_chg q2 c1' (fun g hs hp => blk_ne o1 o2 hp hs)
  have J : Hid _ := And.intro bW (And.intro o1' (And.intro c1' (And.intro o1 o2)))
  clear bW sW a0 q2 o1 o2 a0' o1' c1' ne1 ne2 I HW q1
  have hk3 : k + (P.length : Int) ≤ 4000000 := by omega
  have hk4 : 0 ≤ k + (P.length : Int) := by omega
  go_wp2_with fail
  refine (markSuperS_any vs S (k + P.length) w1 q2' (by omega) hk4 (by omega)).mono ?_
  rintro e w2 ⟨rfl, o2', c2'⟩
  obtain ⟨bW, o1', c1', o1, o2⟩ := J.out
  have o1'' := owns_chg o1' c2' (fun g hp hs => blk_ne o1 o2 hp hs)
  have HF : Hid (DiskOwn w2 0 (.agg #[vp, vs]) (marksS k P.length) (marksP (k + P.length) S.length) ∧ Chg (dBlk (.agg #[vp, vs])) w w2) := by
    refine ⟨⟨vp, vs, rfl, ?_, ?_⟩, ?_⟩
    · rw [marksS_length]; exact o1''
    · rw [marksP_length]; exact o2'
    · refine ((Chg.of_below bW).trans c1' ?_).trans c2' ?_
      · exact fun g _ hg => ⟨vp, vs, rfl, Or.inl hg⟩
      · exact fun g _ hg => ⟨vp, vs, rfl, Or.inr hg⟩
  clear bW o1' c1' o1 o2 o2' c2' o1'' J q2' c1
  go_wp2
  go_ret
  exact ⟨rfl, HF.out⟩

set_option maxHeartbeats 400000 in
theorem heldDisk_any (v : Value) (n m : Nat) (k : Int) (w : World) (h : DiskRow w v (marksS k n) (marksP (k + n) m)) (hP : n ≤ 1048576) (hS : m ≤ 1048576) (hk0 : 0 < k) (hk1 : k ≤ 1000000) :
    Calls Try.prog 21 #[v, .int .i64 k] w fun e w' => e = .returned (.int .i64 (k + n + 2 * m)) ∧ Below w.heap.size w w' := by
  obtain ⟨vp, vs, rfl, r1, r2⟩ := h
  rw [marksS_length] at r1
  rw [marksP_length] at r2
  generalize hW : w.alloc (.cells #[vp, vs] 27) = W
  have bW : Below w.heap.size w W := by rw [← hW]; exact bel_al (Below.refl _ _) _
  have sW : W.heap.size = w.heap.size + 1 := by rw [← hW]; simp
  have a0 : W.heap[w.heap.size]? = some (.cells #[vp, vs] 27) := by rw [← hW]; exact heap_alloc_new _ _
  have q1 := r1.below bW
  have HW : Hid _ := hW
  have I : Hid _ := And.intro bW (And.intro sW (And.intro a0 r2))
  clear hW bW sW a0 r1 r2
  go_enter Try.func21, Try.ntmps21
  go_wp2_with fail
  rw [HW.out]
  refine (heldStringS_any vp n k W q1 (by omega) hk0 (by omega)).mono ?_
  rintro e w1 ⟨rfl, b1⟩
  obtain ⟨bW, sW, a0, r2⟩ := I.out
  have a0' := (b1.block _ (by omega)).trans a0
  have c1 : w1.cell? ⟨w.heap.size, 1, none⟩ = some vs := cell_of_cells a0'
  have B1 := Below.and bW b1
  have q2 := r2.below B1
  have HB : Hid _ := B1
  clear bW sW a0 r2 a0' B1 b1 I HW q1
  have hk3 : k + (n : Int) ≤ 4000000 := by omega
  have hk4 : 0 ≤ k + (n : Int) := by omega
  go_wp2_with fail
  refine (heldSuperS_any vs m (k + n) w1 q2 (by omega) hk4 (by omega)).mono ?_
  rintro e w2 ⟨rfl, hw2⟩
  subst hw2
  have hk5 : 0 ≤ k + (n : Int) + 2 * m := by omega
  go_wp2
  go_ret
  exact ⟨rfl, HB.out⟩

end Go.Proofs.Ytmpngehhojlmmaa
