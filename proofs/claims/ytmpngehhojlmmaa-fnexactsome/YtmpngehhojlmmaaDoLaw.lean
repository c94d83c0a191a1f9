/-
  The walk of the law FnExactDo.
-/
import Derived.Test.YtmpngehhojlmmaaDskS
import Derived.Test.YtmpngehhojlmmaaDskI
namespace Go.Proofs.Ytmpngehhojlmmaa
open Go.RowKit

theorem box2 {u : World} {B : Nat} {x y : Value} {t : Nat} (h : u.heap[B]? = some (.cells #[x, y] t)) : u.cell? ⟨B, 0, none⟩ = some x ∧ u.cell? ⟨B, 1, none⟩ = some y ∧ B < u.heap.size :=
  ⟨cell_of_cells h, cell_of_cells h, (Array.getElem?_eq_some_iff.1 h).1⟩
theorem keepB {u u' : World} {B : Nat} {o : Obj} (h : u.heap[B]? = some o) (hb : Below u.heap.size u u') : u'.heap[B]? = some o := (hb.block _ (Array.getElem?_eq_some_iff.1 h).1).trans h
theorem DiskE.below {w w' : World} {base : Nat} {v : Value} {P : PL} {S : SL} (h : DiskE w base v P S) (hb : Below w.heap.size w w') : DiskE w' base v P S := by
  obtain ⟨vp, vs, rfl, h1, h2⟩ := h
  exact ⟨vp, vs, rfl, h1.below hb, h2.below hb⟩
theorem OwnE.row {w : World} {base e size n : Nat} {v : Value} {xs : List Value} (h : OwnE w base e size v n xs) : Row w v n xs := by
  rcases h with h | ⟨rfl, rfl, g, rfl⟩
  · exact Row.of_owns h
  · exact ⟨_, g, 0, 0, rfl, Nat.le_refl _, Nat.zero_le _, fun h => absurd h (Nat.lt_irrefl _), fun j u hj => by simp at hj, fun h => by cases h⟩
theorem DiskE.row {w : World} {base : Nat} {v : Value} {P : PL} {S : SL} (h : DiskE w base v P S) : DiskRow w v P S := by
  obtain ⟨vp, vs, rfl, h1, h2⟩ := h
  exact ⟨vp, vs, rfl, h1.row, h2.row⟩
/-- the blocks that a disk of the model may write -/
def eBlk (v : Value) (g : Nat) : Prop := ∃ vp vs, v = .agg #[vp, vs] ∧ (wrB vp g ∨ wrB vs g)
theorem DiskE.chg {F : Nat → Prop} {w w' : World} {base : Nat} {v : Value} {P : PL} {S : SL} (h : DiskE w base v P S) (hc : Chg F w w') (hF : ∀ g, eBlk v g → ¬ F g) : DiskE w' base v P S := by
  obtain ⟨vp, vs, rfl, h1, h2⟩ := h
  exact ⟨vp, vs, rfl, h1.chg hc (fun g hg => hF g ⟨vp, vs, rfl, Or.inl hg⟩), h2.chg hc (fun g hg => hF g ⟨vp, vs, rfl, Or.inr hg⟩)⟩
theorem DiskE.lt {w : World} {base : Nat} {v : Value} {P : PL} {S : SL} (h : DiskE w base v P S) {g : Nat} (hg : eBlk v g) : base ≤ g ∧ g < w.heap.size := by
  obtain ⟨vp, vs, rfl, h1, h2⟩ := h
  obtain ⟨vp', vs', e, hg⟩ := hg
  simp at e
  obtain ⟨rfl, rfl⟩ := e
  rcases hg with hg | hg
  · exact h1.lt g hg
  · exact h2.lt g hg
theorem DiskOwn.shape {w : World} {base : Nat} {v : Value} {P : PL} {S : SL} (h : DiskOwn w base v P S) : ∃ a1 q1 a2 q2, v = .agg #[.slice a1 P.length q1, .slice a2 S.length q2] := by
  obtain ⟨x, y, rfl, h1, h2⟩ := h
  obtain ⟨a1, q1, rfl⟩ := owns_val h1
  obtain ⟨a2, q2, rfl⟩ := owns_val h2
  exact ⟨a1, q1, a2, q2, rfl⟩
theorem DiskE.shape {w : World} {base : Nat} {v : Value} {P : PL} {S : SL} (h : DiskE w base v P S) : ∃ a1 q1 a2 q2, v = .agg #[.slice a1 P.length q1, .slice a2 S.length q2] := by
  obtain ⟨x, y, rfl, h1, h2⟩ := h
  obtain ⟨a1, q1, rfl⟩ := h1.slice
  obtain ⟨a2, q2, rfl⟩ := h2.slice
  exact ⟨a1, q1, a2, q2, rfl⟩
theorem bel_new {w : World} (o : Obj) : Below w.heap.size w (w.alloc o) := bel_al (Below.refl _ _) o

/-- a struct of two slices in a block -/
def bx (t : Nat) (u : World) (B : Nat) (x y : Value) : Prop := u.heap[B]? = some (.cells #[x, y] t)
theorem bx.cells {t : Nat} {u : World} {B : Nat} {x y : Value} (h : bx t u B x y) : u.cell? ⟨B, 0, none⟩ = some x ∧ u.cell? ⟨B, 1, none⟩ = some y ∧ B < u.heap.size := box2 h
theorem bx.below {t : Nat} {u u' : World} {B : Nat} {x y : Value} (h : bx t u B x y) (hb : Below u.heap.size u u') : bx t u' B x y := keepB h hb
theorem bx.new (t : Nat) (u : World) (x y : Value) : bx t (u.alloc (.cells #[x, y] t)) u.heap.size x y := heap_alloc_new _ _
theorem bx.chg {t : Nat} {F : Nat → Prop} {u u' : World} {B : Nat} {x y : Value} (h : bx t u B x y) (hc : Chg F u u') (hF : ¬ F B) : bx t u' B x y := row_chg h hc hF
theorem DiskOwn.nb {w : World} {base : Nat} {v : Value} {P : PL} {S : SL} (h : DiskOwn w base v P S) {t B : Nat} {x y : Value} (hB : bx t w B x y) (h1 : t ≠ 9) (h2 : t ≠ 33) : ¬ dBlk v B := by
  intro hg
  obtain ⟨vp, vs, rfl, o1, o2⟩ := h
  obtain ⟨vp', vs', e, hg⟩ := hg
  simp at e
  obtain ⟨rfl, rfl⟩ := e
  rcases hg with hg | hg
  · exact own_ne o1 hB h1 hg rfl
  · exact own_ne o2 hB h2 hg rfl
theorem owns_base {w w' : World} {base e size n n' : Nat} {v : Value} {xs xs' : List Value} (h : w'.ownsRow 0 e size v n xs) (h0 : w.ownsRow base e size v n' xs') : w'.ownsRow base e size v n xs := by
  obtain ⟨hl, h1 | ⟨g, cap, cur, rfl, hg, hh, hn, hcap, hsz, htake⟩⟩ := h
  · exact ⟨hl, .inl h1⟩
  · exact ⟨hl, .inr ⟨g, cap, cur, rfl, (h0.lt g rfl).1, hh, hn, hcap, hsz, htake⟩⟩
/-- the law's state behind the program's answer -/
structure LS (W0 : World) (p1 p2 p3 p4 p5 p6 p7 p8 v7 : Value) (B6 B7 B9 N5 N6 N7 : Nat) (P : PL) (S : SL) (l : List Wr) (D : PL) (T : SL) (D2 : PL) (T2 : SL) (u : World) : Prop where
  bel : Below W0.heap.size W0 u
  b0 : bx 42 u W0.heap.size p1 p2
  b6 : bx 27 u B6 p3 p4
  b7 : bx 27 u B7 p5 p6
  b9 : bx 27 u B9 p7 p8
  e6 : DiskE u W0.heap.size (.agg #[p3, p4]) D T
  x7 : DiskOwn u N5 (.agg #[p5, p6]) P S
  r8 : u.ownsRow N6 35 4 v7 l.length (flatW l)
  g9 : DiskOwn u N7 (.agg #[p7, p8]) D2 T2
  e6l : ∀ g, eBlk (.agg #[p3, p4]) g → g < N5
  x7l : ∀ g, dBlk (.agg #[p5, p6]) g → g < N6
  r8l : ∀ g, v7.ownBlock = some g → g < N7
  n0 : W0.heap.size ≤ N5
  n5 : N5 ≤ N6
  n6 : N6 ≤ N7
theorem LS.below {W0 : World} {p1 p2 p3 p4 p5 p6 p7 p8 v7 : Value} {B6 B7 B9 N5 N6 N7 : Nat} {P : PL} {S : SL} {l : List Wr} {D D2 : PL} {T T2 : SL} {u u' : World} (h : LS W0 p1 p2 p3 p4 p5 p6 p7 p8 v7 B6 B7 B9 N5 N6 N7 P S l D T D2 T2 u) (hb : Below u.heap.size u u') : LS W0 p1 p2 p3 p4 p5 p6 p7 p8 v7 B6 B7 B9 N5 N6 N7 P S l D T D2 T2 u' :=
  ⟨Below.and h.bel hb, h.b0.below hb, h.b6.below hb, h.b7.below hb, h.b9.below hb, h.e6.below hb, h.x7.below hb, owns_below h.r8 hb, h.g9.below hb, h.e6l, h.x7l, h.r8l, h.n0, h.n5, h.n6⟩
theorem own_base {w w' : World} {base : Nat} {v : Value} {P P' : PL} {S S' : SL} (o : DiskOwn w' 0 v P' S') (h : DiskOwn w base v P S) : DiskOwn w' base v P' S' := by
  obtain ⟨x, y, e, h1, h2⟩ := o
  obtain ⟨x', y', e', h1', h2'⟩ := h
  subst e
  simp at e'
  obtain ⟨rfl, rfl⟩ := e'
  exact ⟨_, _, rfl, owns_base h1 h1', owns_base h2 h2'⟩
/-- the disk that was handed in is marked -/
theorem LS.markX {W0 : World} {p1 p2 p3 p4 p5 p6 p7 p8 v7 : Value} {B6 B7 B9 N5 N6 N7 : Nat} {P : PL} {S : SL} {l : List Wr} {D D2 : PL} {T T2 : SL} {u u' : World} (h : LS W0 p1 p2 p3 p4 p5 p6 p7 p8 v7 B6 B7 B9 N5 N6 N7 P S l D T D2 T2 u) {P' : PL} {S' : SL} (o : DiskOwn u' 0 (.agg #[p5, p6]) P' S') (c : Chg (dBlk (.agg #[p5, p6])) u u') : LS W0 p1 p2 p3 p4 p5 p6 p7 p8 v7 B6 B7 B9 N5 N6 N7 P' S' l D T D2 T2 u' := by
  refine ⟨h.bel.trans (c.below (fun g _ hg => Nat.le_trans h.n0 (h.x7.lt hg).1) h.bel.size), h.b0.chg c (h.x7.nb h.b0 (by decide) (by decide)), h.b6.chg c (h.x7.nb h.b6 (by decide) (by decide)), h.b7.chg c (h.x7.nb h.b7 (by decide) (by decide)), h.b9.chg c (h.x7.nb h.b9 (by decide) (by decide)), ?_, own_base o h.x7, ?_, ?_, h.e6l, h.x7l, h.r8l, h.n0, h.n5, h.n6⟩
  · exact h.e6.chg c (fun g hg hd => by have := h.e6l g hg; have := (h.x7.lt hd).1; omega)
  · exact owns_chg h.r8 c (fun g hg hd => by have := (h.r8.lt g hg).1; have := h.x7l g hd; omega)
  · exact h.g9.chg c (fun g hg hd => by have := (h.g9.lt hg).1; have := h.x7l g hd; have := h.n6; omega)
/-- the writes that were handed in are marked -/
theorem LS.markW {W0 : World} {p1 p2 p3 p4 p5 p6 p7 p8 v7 : Value} {B6 B7 B9 N5 N6 N7 : Nat} {P : PL} {S : SL} {l : List Wr} {D D2 : PL} {T T2 : SL} {u u' : World} (h : LS W0 p1 p2 p3 p4 p5 p6 p7 p8 v7 B6 B7 B9 N5 N6 N7 P S l D T D2 T2 u) {l' : List Wr} (o : u'.ownsRow 0 35 4 v7 l'.length (flatW l')) (c : Chg (fun g => v7.ownBlock = some g) u u') : LS W0 p1 p2 p3 p4 p5 p6 p7 p8 v7 B6 B7 B9 N5 N6 N7 P S l' D T D2 T2 u' := by
  have lo : ∀ g, v7.ownBlock = some g → N6 ≤ g := fun g hg => (h.r8.lt g hg).1
  refine ⟨h.bel.trans (c.below (fun g _ hg => by have := lo g hg; have := h.n0; have := h.n5; omega) h.bel.size), h.b0.chg c (fun hg => own_ne h.r8 h.b0 (by decide) hg rfl), h.b6.chg c (fun hg => own_ne h.r8 h.b6 (by decide) hg rfl), h.b7.chg c (fun hg => own_ne h.r8 h.b7 (by decide) hg rfl), h.b9.chg c (fun hg => own_ne h.r8 h.b9 (by decide) hg rfl), ?_, ?_, owns_base o h.r8, ?_, h.e6l, h.x7l, h.r8l, h.n0, h.n5, h.n6⟩
  · exact h.e6.chg c (fun g hg hd => by have := h.e6l g hg; have := lo g hd; have := h.n5; omega)
  · exact h.x7.chg c (fun g hg hd => by have := h.x7l g hg; have := lo g hd; omega)
  · exact h.g9.chg c (fun g hg hd => by have := (h.g9.lt hg).1; have := h.r8l g hd; omega)
/-- the answer is marked -/
theorem LS.markG {W0 : World} {p1 p2 p3 p4 p5 p6 p7 p8 v7 : Value} {B6 B7 B9 N5 N6 N7 : Nat} {P : PL} {S : SL} {l : List Wr} {D D2 : PL} {T T2 : SL} {u u' : World} (h : LS W0 p1 p2 p3 p4 p5 p6 p7 p8 v7 B6 B7 B9 N5 N6 N7 P S l D T D2 T2 u) {P' : PL} {S' : SL} (o : DiskOwn u' 0 (.agg #[p7, p8]) P' S') (c : Chg (dBlk (.agg #[p7, p8])) u u') : LS W0 p1 p2 p3 p4 p5 p6 p7 p8 v7 B6 B7 B9 N5 N6 N7 P S l D T P' S' u' := by
  have lo : ∀ g, dBlk (.agg #[p7, p8]) g → N7 ≤ g := fun g hg => (h.g9.lt hg).1
  refine ⟨h.bel.trans (c.below (fun g _ hg => by have := lo g hg; have := h.n0; have := h.n5; have := h.n6; omega) h.bel.size), h.b0.chg c (h.g9.nb h.b0 (by decide) (by decide)), h.b6.chg c (h.g9.nb h.b6 (by decide) (by decide)), h.b7.chg c (h.g9.nb h.b7 (by decide) (by decide)), h.b9.chg c (h.g9.nb h.b9 (by decide) (by decide)), ?_, ?_, ?_, own_base o h.g9, h.e6l, h.x7l, h.r8l, h.n0, h.n5, h.n6⟩
  · exact h.e6.chg c (fun g hg hd => by have := h.e6l g hg; have := lo g hd; have := h.n5; have := h.n6; omega)
  · exact h.x7.chg c (fun g hg hd => by have := h.x7l g hg; have := lo g hd; have := h.n6; omega)
  · exact owns_chg h.r8 c (fun g hg hd => by have := h.r8l g hg; have := lo g hd; omega)

set_option maxRecDepth 100000 in
set_option maxHeartbeats 1000000 in
theorem fnExactDo_any (v : Value) (P : PL) (S : SL) (vl : Value) (l : List Wr) (W0 : World) (hd : DiskRow W0 v P S) (hl : Row W0 vl l.length (flatW l)) (hzP : ∀ s ∈ P, s.size ≤ maxLen) (hzl : ∀ x ∈ l, x.2.1.size ≤ maxLen)
    (hA : ∀ x ∈ l, -9223372036854775808 ≤ x.1 ∧ x.1 ≤ 9223372036854775807) :
    Calls Try.prog 4 #[v, vl] W0 fun e w' => e = .returned (.bool true) ∧ Below W0.heap.size W0 w' := by
  obtain ⟨vp, vs, rfl, r1, r2⟩ := hd
  obtain ⟨al, ql, rfl, hql, _⟩ := hl.len
  obtain ⟨a1, q1, rfl, _, _⟩ := r1.len
  obtain ⟨a2, q2, rfl, _, _⟩ := r2.len
  have RD : Hid (∀ u, Below W0.heap.size W0 u → DiskRow u (.agg #[.slice a1 P.length q1, .slice a2 S.length q2]) P S) := fun u hu => ⟨_, _, rfl, r1.below hu, r2.below hu⟩
  have RL : Hid (∀ u, Below W0.heap.size W0 u → Row u (.slice al l.length ql) l.length (flatW l)) := fun u hu => hl.below hu
  clear r1 r2 hl
  have hd0 := szD_len (P := P) (S := S) (left := 1048576)
  have hs0 := szSall_len (l := texts l) (left := szD P S 1048576)
  rw [texts_length] at hs0
  have Z1 : Hid _ := And.intro hzP hzl
  have HA : Hid _ := hA
  clear hzP hzl hA
  have K0 : Hid ((W0.alloc (.cells #[.slice a1 P.length q1, .slice a2 S.length q2] 42)).heap[W0.heap.size]? = some (.cells #[.slice a1 P.length q1, .slice a2 S.length q2] 42) ∧ Below W0.heap.size W0 (W0.alloc (.cells #[.slice a1 P.length q1, .slice a2 S.length q2] 42))) := ⟨heap_alloc_new _ _, bel_new _⟩
  go_enter Try.func4, Try.ntmps4
  go_wp2_with fail
  refine (szDisk_any _ P S 1048576 _ (RD.out _ K0.out.2) Z1.out.1 (by decide) (by decide)).mono ?_
  rintro e u1 ⟨rfl, b1⟩
  have K1 : Hid (u1.heap[W0.heap.size]? = some (.cells #[.slice a1 P.length q1, .slice a2 S.length q2] 42) ∧ Below W0.heap.size W0 u1) := ⟨keepB K0.out.1 b1, Below.and K0.out.2 b1⟩
  clear b1 K0
  generalize hg1 : szD P S 1048576 = x1 at *
  have HG1 : Hid _ := hg1
  clear hg1
  by_cases hx1 : x1 < 0
  · go_wp2
    go_ret
    exact ⟨rfl, K1.out.2⟩
  have hx1' := hd0 (by omega)
  go_wp2_with fail
  refine (szWriteS_any _ l x1 _ (RL.out _ K1.out.2) Z1.out.2 (by omega) (by omega)).mono ?_
  rintro e u2 ⟨rfl, b2⟩
  have K2 : Hid (u2.heap[W0.heap.size]? = some (.cells #[.slice a1 P.length q1, .slice a2 S.length q2] 42) ∧ Below W0.heap.size W0 u2) := ⟨keepB K1.out.1 b2, Below.and K1.out.2 b2⟩
  clear b2 K1
  generalize hg2 : szSall (texts l) x1 = x2 at *
  have HG2 : Hid _ := hg2
  clear hg2
  by_cases hx2 : x2 < 0
  · go_wp2
    go_ret
    exact ⟨rfl, K2.out.2⟩
  have hx2' := hs0 (by omega)
  have hlen : P.length + S.length + l.length ≤ 1048576 := by omega
  clear hd0 hs0 HG1 HG2 hx1' hx2' Z1
  obtain ⟨c0, c1, _⟩ := box2 K2.out.1
  go_wp2_with fail
  refine (toDisk_any _ P S _ (RD.out _ K2.out.2) (by omega) (by omega)).mono ?_
  rintro e u3 ⟨v3, rfl, o3, b3⟩
  have K3 : Hid (u3.heap[W0.heap.size]? = some (.cells #[.slice a1 P.length q1, .slice a2 S.length q2] 42) ∧ Below W0.heap.size W0 u3 ∧ DiskRow u3 v3 P S) := ⟨keepB K2.out.1 b3, Below.and K2.out.2 b3, o3.row⟩
  clear b3 o3 K2 c0 c1
  go_wp2_with fail
  refine (toWriteS_any _ l _ (RL.out _ K3.out.2.1) (by omega)).mono ?_
  rintro e u4 ⟨v4, rfl, o4, b4⟩
  have K4 : Hid (u4.heap[W0.heap.size]? = some (.cells #[.slice a1 P.length q1, .slice a2 S.length q2] 42) ∧ Below W0.heap.size W0 u4 ∧ DiskRow u4 v3 P S ∧ Row u4 v4 l.length (flatW l)) := ⟨keepB K3.out.1 b4, Below.and K3.out.2.1 b4, K3.out.2.2.below b4, Row.of_owns o4⟩
  clear b4 o4 K3
  go_wp2_with fail
  refine (specDo_any _ P S _ l _ K4.out.2.2.1 K4.out.2.2.2 (by omega) (by omega) HA.out).mono ?_
  rintro e u5 ⟨v5, rfl, o5, b5⟩
  obtain ⟨a3, q3, a4, q4, rfl⟩ := o5.shape
  have DL := doP_length l P
  have SL' := doS_length l S
  rw [DL, SL'] at o5 ⊢
  generalize hDD : doP P l = D at *
  generalize hTT : doS S l = T at *
  have HD : Hid _ := And.intro hDD (And.intro hTT (And.intro DL SL'))
  have K5 : Hid (bx 42 u5 W0.heap.size (.slice a1 P.length q1) (.slice a2 S.length q2) ∧ Below W0.heap.size W0 u5 ∧ DiskE u5 W0.heap.size (.agg #[.slice a3 P.length q3, .slice a4 S.length q4]) D T) := by
    obtain ⟨x, y, e, e1, e2⟩ := o5
    exact ⟨keepB K4.out.1 b5, Below.and K4.out.2.1 b5, x, y, e, e1.mono K4.out.2.1.size, e2.mono K4.out.2.1.size⟩
  clear hDD hTT DL SL' o5 b5 K4
  obtain ⟨c0, c1, l0⟩ := K5.out.1.cells
  have l1 : ¬ W0.heap.size = u5.heap.size := by omega
  have l2 : ¬ u5.heap.size = W0.heap.size := by omega
  go_wp2_with fail
  have K5' : Hid (bx 42 (u5.alloc (.cells #[.slice a3 P.length q3, .slice a4 S.length q4] 27)) W0.heap.size (.slice a1 P.length q1) (.slice a2 S.length q2) ∧ Below W0.heap.size W0 (u5.alloc (.cells #[.slice a3 P.length q3, .slice a4 S.length q4] 27)) ∧ DiskE (u5.alloc (.cells #[.slice a3 P.length q3, .slice a4 S.length q4] 27)) W0.heap.size (.agg #[.slice a3 P.length q3, .slice a4 S.length q4]) D T ∧ bx 27 (u5.alloc (.cells #[.slice a3 P.length q3, .slice a4 S.length q4] 27)) u5.heap.size (.slice a3 P.length q3) (.slice a4 S.length q4)) :=
    ⟨K5.out.1.below (bel_new _), Below.and K5.out.2.1 (bel_new _), K5.out.2.2.below (bel_new _), bx.new _ _ _ _⟩
  generalize u5.alloc (.cells #[.slice a3 P.length q3, .slice a4 S.length q4] 27) = U5 at K5' ⊢
  clear c0 c1 l0 l1 l2 K5
  generalize u5.heap.size = B6 at K5' ⊢
  refine (toDisk_any _ P S U5 (RD.out _ K5'.out.2.1) (by omega) (by omega)).mono ?_
  rintro e u6 ⟨v6, rfl, o6, b6⟩
  obtain ⟨a5, q5, a6, q6, rfl⟩ := o6.shape
  have K6 : Hid (bx 42 u6 W0.heap.size (.slice a1 P.length q1) (.slice a2 S.length q2) ∧ Below W0.heap.size W0 u6 ∧ DiskE u6 W0.heap.size (.agg #[.slice a3 P.length q3, .slice a4 S.length q4]) D T ∧ bx 27 u6 B6 (.slice a3 P.length q3) (.slice a4 S.length q4) ∧ DiskOwn u6 U5.heap.size (.agg #[.slice a5 P.length q5, .slice a6 S.length q6]) P S ∧ (∀ g, eBlk (.agg #[.slice a3 P.length q3, .slice a4 S.length q4]) g → g < U5.heap.size) ∧ W0.heap.size ≤ U5.heap.size ∧ U5.heap.size ≤ u6.heap.size) :=
    ⟨K5'.out.1.below b6, Below.and K5'.out.2.1 b6, K5'.out.2.2.1.below b6, K5'.out.2.2.2.below b6, o6, fun g hg => (K5'.out.2.2.1.lt hg).2, K5'.out.2.1.size, b6.size⟩
  clear o6 b6 K5'
  generalize U5.heap.size = N5 at K6
  go_wp2_with fail
  have K6' : Hid (bx 42 (u6.alloc (.cells #[.slice a5 P.length q5, .slice a6 S.length q6] 27)) W0.heap.size (.slice a1 P.length q1) (.slice a2 S.length q2) ∧ Below W0.heap.size W0 (u6.alloc (.cells #[.slice a5 P.length q5, .slice a6 S.length q6] 27)) ∧ DiskE (u6.alloc (.cells #[.slice a5 P.length q5, .slice a6 S.length q6] 27)) W0.heap.size (.agg #[.slice a3 P.length q3, .slice a4 S.length q4]) D T ∧ bx 27 (u6.alloc (.cells #[.slice a5 P.length q5, .slice a6 S.length q6] 27)) B6 (.slice a3 P.length q3) (.slice a4 S.length q4) ∧ DiskOwn (u6.alloc (.cells #[.slice a5 P.length q5, .slice a6 S.length q6] 27)) N5 (.agg #[.slice a5 P.length q5, .slice a6 S.length q6]) P S ∧ bx 27 (u6.alloc (.cells #[.slice a5 P.length q5, .slice a6 S.length q6] 27)) u6.heap.size (.slice a5 P.length q5) (.slice a6 S.length q6) ∧ (∀ g, eBlk (.agg #[.slice a3 P.length q3, .slice a4 S.length q4]) g → g < N5) ∧ W0.heap.size ≤ N5 ∧ N5 ≤ (u6.alloc (.cells #[.slice a5 P.length q5, .slice a6 S.length q6] 27)).heap.size) :=
    ⟨K6.out.1.below (bel_new _), Below.and K6.out.2.1 (bel_new _), K6.out.2.2.1.below (bel_new _), K6.out.2.2.2.1.below (bel_new _), K6.out.2.2.2.2.1.below (bel_new _), bx.new _ _ _ _, K6.out.2.2.2.2.2.1, K6.out.2.2.2.2.2.2.1, by have := K6.out.2.2.2.2.2.2.2; simp; omega⟩
  generalize u6.alloc (.cells #[.slice a5 P.length q5, .slice a6 S.length q6] 27) = U6 at K6' ⊢
  clear K6
  generalize u6.heap.size = B7 at K6' ⊢
  refine (toWriteS_any _ l _ (RL.out _ K6'.out.2.1) (by omega)).mono ?_
  rintro e u7 ⟨v7, rfl, o7, b7⟩
  obtain ⟨a9, q9, rfl⟩ := owns_val o7
  have K7 : Hid (bx 42 u7 W0.heap.size (.slice a1 P.length q1) (.slice a2 S.length q2) ∧ Below W0.heap.size W0 u7 ∧ DiskE u7 W0.heap.size (.agg #[.slice a3 P.length q3, .slice a4 S.length q4]) D T ∧ bx 27 u7 B6 (.slice a3 P.length q3) (.slice a4 S.length q4) ∧ DiskOwn u7 N5 (.agg #[.slice a5 P.length q5, .slice a6 S.length q6]) P S ∧ bx 27 u7 B7 (.slice a5 P.length q5) (.slice a6 S.length q6) ∧ (∀ g, eBlk (.agg #[.slice a3 P.length q3, .slice a4 S.length q4]) g → g < N5) ∧ W0.heap.size ≤ N5 ∧ N5 ≤ U6.heap.size ∧ u7.ownsRow U6.heap.size 35 4 (.slice a9 l.length q9) l.length (flatW l) ∧ (∀ g, dBlk (.agg #[.slice a5 P.length q5, .slice a6 S.length q6]) g → g < U6.heap.size) ∧ U6.heap.size ≤ u7.heap.size) :=
    ⟨K6'.out.1.below b7, Below.and K6'.out.2.1 b7, K6'.out.2.2.1.below b7, K6'.out.2.2.2.1.below b7, K6'.out.2.2.2.2.1.below b7, K6'.out.2.2.2.2.2.1.below b7, K6'.out.2.2.2.2.2.2.1, K6'.out.2.2.2.2.2.2.2.1, K6'.out.2.2.2.2.2.2.2.2, o7, fun g hg => (K6'.out.2.2.2.2.1.lt hg).2, b7.size⟩
  clear o7 b7 K6'
  generalize U6.heap.size = N6 at K7
  obtain ⟨c0, c1, _⟩ := K7.out.2.2.2.2.2.1.cells
  go_wp2_with fail
  refine (implDo_any _ P S _ l _ K7.out.2.2.2.2.1.row (Row.of_owns K7.out.2.2.2.2.2.2.2.2.2.1) (by omega) (by omega) HA.out).mono ?_
  rintro e u8 ⟨v8, rfl, o8, b8⟩
  rw [HD.out.1, HD.out.2.1] at o8
  obtain ⟨a7, q7, a8, q8, rfl⟩ := o8.shape
  rw [HD.out.2.2.1, HD.out.2.2.2] at o8 ⊢
  have M0 : Hid (LS W0 (.slice a1 P.length q1) (.slice a2 S.length q2) (.slice a3 P.length q3) (.slice a4 S.length q4) (.slice a5 P.length q5) (.slice a6 S.length q6) (.slice a7 P.length q7) (.slice a8 S.length q8) (.slice a9 l.length q9) B6 B7 u8.heap.size N5 N6 u7.heap.size P S l D T D T (u8.alloc (.cells #[.slice a7 P.length q7, .slice a8 S.length q8] 27))) := by
    obtain ⟨k1, k2, k3, k4, k5, k6, k7, k8, k9, k10, k11, k12⟩ := K7.out
    have bb := Below.and b8 (bel_new (w := u8) (.cells #[.slice a7 P.length q7, .slice a8 S.length q8] 27))
    exact ⟨Below.and k2 bb, k1.below bb, k4.below bb, k6.below bb, bx.new _ _ _ _, k3.below bb, k5.below bb, owns_below k10 bb, o8.below (bel_new _), k7, k11, fun g hg => (k10.lt g hg).2, k8, k9, k12⟩
  obtain ⟨d0, d1, dl⟩ := (K7.out.2.2.2.1.below b8).cells
  have l1 : ¬ B6 = u8.heap.size := by omega
  have l2 : ¬ u8.heap.size = B6 := by omega
  clear o8 b8 K7 c0 c1
  generalize u7.heap.size = N7 at M0
  go_wp2_with fail
  generalize (u8.alloc (.cells #[.slice a7 P.length q7, .slice a8 S.length q8] 27)) = U8 at M0 ⊢
  clear d0 d1 dl l1 l2
  generalize u8.heap.size = B9 at M0 ⊢
  refine (eqDisk_any _ _ D D T T U8 M0.out.g9.row M0.out.e6.row).mono ?_
  rintro e u9 ⟨rfl, b9⟩
  rw [show (decide (D = D) && decide (T = T)) = true by simp]
  have M1 : Hid (LS W0 (.slice a1 P.length q1) (.slice a2 S.length q2) (.slice a3 P.length q3) (.slice a4 S.length q4) (.slice a5 P.length q5) (.slice a6 S.length q6) (.slice a7 P.length q7) (.slice a8 S.length q8) (.slice a9 l.length q9) B6 B7 B9 N5 N6 N7 P S l D T D T u9) := M0.out.below b9
  clear b9 M0
  go_wp2_with fail
  go_cut [44] (fun s44 wx => s44 = .bool false ∧ Hid (LS W0 (.slice a1 P.length q1) (.slice a2 S.length q2) (.slice a3 P.length q3) (.slice a4 S.length q4) (.slice a5 P.length q5) (.slice a6 S.length q6) (.slice a7 P.length q7) (.slice a8 S.length q8) (.slice a9 l.length q9) B6 B7 B9 N5 N6 N7 P S l D T D T wx))
  case first =>
    obtain ⟨c0, c1, _⟩ := M1.out.b7.cells
    obtain ⟨d0, d1, _⟩ := M1.out.b0.cells
    have TD : Hid (∀ z, Below u9.heap.size u9 z → Calls Try.prog 15 #[.agg #[.slice a1 P.length q1, .slice a2 S.length q2]] z fun e w' => ∃ v', e = .returned v' ∧ DiskRow w' v' P S ∧ Below u9.heap.size u9 w' ∧ w'.cell? ⟨B7, 0, none⟩ = some (.slice a5 P.length q5) ∧ w'.cell? ⟨B7, 1, none⟩ = some (.slice a6 S.length q6)) := fun z hz => (toDisk_any _ P S z (RD.out _ (Below.and M1.out.bel hz)) (by omega) (by omega)).mono (fun e w' ⟨v', h1, h2, h3⟩ => ⟨v', h1, h2.row, Below.and hz h3, ((M1.out.b7.below (Below.and hz h3)).cells).1, ((M1.out.b7.below (Below.and hz h3)).cells).2.1⟩)
    have EQ : Hid (∀ z v', Below u9.heap.size u9 z → DiskRow z v' P S → Calls Try.prog 17 #[.agg #[.slice a5 P.length q5, .slice a6 S.length q6], v'] z fun e w' => e = .returned (.bool true) ∧ Below u9.heap.size u9 w') := fun z v' hz hr => (eqDisk_any _ _ P P S S z ((M1.out.below hz).x7.row) hr).mono (fun e w' ⟨h1, h2⟩ => ⟨by rw [h1]; simp, Below.and hz h2⟩)
    have KM : Hid (∀ z, Below u9.heap.size u9 z → LS W0 (.slice a1 P.length q1) (.slice a2 S.length q2) (.slice a3 P.length q3) (.slice a4 S.length q4) (.slice a5 P.length q5) (.slice a6 S.length q6) (.slice a7 P.length q7) (.slice a8 S.length q8) (.slice a9 l.length q9) B6 B7 B9 N5 N6 N7 P S l D T D T z) := fun z hz => M1.out.below hz
    clear M1 RD RL HA HD
    go_region_with (first | (go_at_call 15; refine (TD.out _ (by (repeat (first | exact Below.refl _ _ | apply Below.drew)))).mono ?_; rintro e z1 ⟨v', rfl, r1, bz, e0, e1⟩) | (go_at_call 17; refine (EQ.out _ _ (by (repeat (first | exact bz | apply Below.drew))) (by assumption)).mono ?_; rintro e z2 ⟨rfl, bz2⟩))
    all_goals
      go_wp2_with fail
      go_meet
      case rel => exact ⟨rfl, KM.out _ bz2⟩
  case rest =>
  obtain ⟨rfl, M2⟩ := hcut
  clear M1
  go_wp2_with fail
  refine (toWriteS_any _ l _ (RL.out _ M2.out.bel) (by omega)).mono ?_
  rintro e w3 ⟨v3', rfl, o3, b3⟩
  have M3 : Hid (LS W0 (.slice a1 P.length q1) (.slice a2 S.length q2) (.slice a3 P.length q3) (.slice a4 S.length q4) (.slice a5 P.length q5) (.slice a6 S.length q6) (.slice a7 P.length q7) (.slice a8 S.length q8) (.slice a9 l.length q9) B6 B7 B9 N5 N6 N7 P S l D T D T w3) := M2.out.below b3
  have R3 := Row.of_owns o3
  clear M2 b3 o3
  go_wp2_with fail
  refine (eqWriteS_any _ _ l l w3 (Row.of_owns M3.out.r8) R3).mono ?_
  rintro e w4 ⟨rfl, b4⟩
  have M4 : Hid (LS W0 (.slice a1 P.length q1) (.slice a2 S.length q2) (.slice a3 P.length q3) (.slice a4 S.length q4) (.slice a5 P.length q5) (.slice a6 S.length q6) (.slice a7 P.length q7) (.slice a8 S.length q8) (.slice a9 l.length q9) B6 B7 B9 N5 N6 N7 P S l D T D T w4) := M3.out.below b4
  rw [decide_eq_true (rfl : l = l)]
  clear M3 b4 R3
  obtain ⟨c0, c1, _⟩ := M4.out.b7.cells
  go_wp2_with fail
  refine (markDisk_any _ P S 1 w4 (M4.out.x7.mono (Nat.zero_le _)) (by omega) (by omega) (by decide) (by decide)).mono ?_
  rintro e w5 ⟨rfl, o5', h5⟩
  have M5 : Hid (LS W0 (.slice a1 P.length q1) (.slice a2 S.length q2) (.slice a3 P.length q3) (.slice a4 S.length q4) (.slice a5 P.length q5) (.slice a6 S.length q6) (.slice a7 P.length q7) (.slice a8 S.length q8) (.slice a9 l.length q9) B6 B7 B9 N5 N6 N7 (marksS 1 P.length) (marksP (1 + P.length) S.length) l D T D T w5) := M4.out.markX o5' h5
  clear M4 o5' h5 c0 c1
  have hk3 : (1 : Int) + P.length + 2 * S.length ≤ 3500000 := by omega
  have hk4 : (0 : Int) < 1 + P.length + 2 * S.length := by omega
  go_wp2_with fail
  refine (markWriteS_any _ l (1 + P.length + 2 * S.length) w5 (owns_mono M5.out.r8 (Nat.zero_le _)) (by omega) hk4 hk3).mono ?_
  rintro e w6 ⟨rfl, o6', h6⟩
  have M6 : Hid (LS W0 (.slice a1 P.length q1) (.slice a2 S.length q2) (.slice a3 P.length q3) (.slice a4 S.length q4) (.slice a5 P.length q5) (.slice a6 S.length q6) (.slice a7 P.length q7) (.slice a8 S.length q8) (.slice a9 l.length q9) B6 B7 B9 N5 N6 N7 (marksS 1 P.length) (marksP (1 + P.length) S.length) (marksW (1 + P.length + 2 * S.length) l.length) D T D T w6) := M5.out.markW (by rw [marksW_length]; exact o6') h6
  clear M5 o6' h6
  obtain ⟨c0, c1, _⟩ := M6.out.b9.cells
  obtain ⟨d0, d1, _⟩ := M6.out.b6.cells
  have hk5 : ¬ (1 : Int) + P.length + 2 * S.length + 4 * l.length < 0 := by omega
  go_wp2_with fail
  refine (eqDisk_any _ _ D D T T w6 M6.out.g9.row M6.out.e6.row).mono ?_
  rintro e w7 ⟨rfl, b7⟩
  rw [show (decide (D = D) && decide (T = T)) = true by simp]
  have M7 : Hid (LS W0 (.slice a1 P.length q1) (.slice a2 S.length q2) (.slice a3 P.length q3) (.slice a4 S.length q4) (.slice a5 P.length q5) (.slice a6 S.length q6) (.slice a7 P.length q7) (.slice a8 S.length q8) (.slice a9 l.length q9) B6 B7 B9 N5 N6 N7 (marksS 1 P.length) (marksP (1 + P.length) S.length) (marksW (1 + P.length + 2 * S.length) l.length) D T D T w7) := M6.out.below b7
  clear M6 b7 c0 c1 d0 d1
  obtain ⟨c0, c1, _⟩ := M7.out.b9.cells
  have hD1 := HD.out.2.2.1
  have hT1 := HD.out.2.2.2
  have hDl : D.length ≤ 1048576 := by omega
  have hTl : T.length ≤ 1048576 := by omega
  clear hD1 hT1
  go_wp2_with fail
  refine (markDisk_any _ D T 1 w7 (M7.out.g9.mono (Nat.zero_le _)) hDl hTl (by decide) (by decide)).mono ?_
  rintro e w8 ⟨rfl, o8', h8⟩
  have M8 : Hid (LS W0 (.slice a1 P.length q1) (.slice a2 S.length q2) (.slice a3 P.length q3) (.slice a4 S.length q4) (.slice a5 P.length q5) (.slice a6 S.length q6) (.slice a7 P.length q7) (.slice a8 S.length q8) (.slice a9 l.length q9) B6 B7 B9 N5 N6 N7 (marksS 1 P.length) (marksP (1 + P.length) S.length) (marksW (1 + P.length + 2 * S.length) l.length) D T (marksS 1 D.length) (marksP (1 + D.length) T.length) w8) := M7.out.markG o8' h8
  clear M7 o8' h8 c0 c1
  obtain ⟨c0, c1, _⟩ := M8.out.b9.cells
  have hk6 : ¬ (1 : Int) + D.length + 2 * T.length < 0 := by omega
  go_wp2_with fail
  refine (heldDisk_any _ D.length T.length 1 w8 M8.out.g9.row hDl hTl (by decide) (by decide)).mono ?_
  rintro e w9 ⟨rfl, b9⟩
  have M9 : Hid (LS W0 (.slice a1 P.length q1) (.slice a2 S.length q2) (.slice a3 P.length q3) (.slice a4 S.length q4) (.slice a5 P.length q5) (.slice a6 S.length q6) (.slice a7 P.length q7) (.slice a8 S.length q8) (.slice a9 l.length q9) B6 B7 B9 N5 N6 N7 (marksS 1 P.length) (marksP (1 + P.length) S.length) (marksW (1 + P.length + 2 * S.length) l.length) D T (marksS 1 D.length) (marksP (1 + D.length) T.length) w9) := M8.out.below b9
  clear M8 b9 c0 c1
  obtain ⟨c0, c1, _⟩ := M9.out.b0.cells
  go_wp2_with fail
  refine (toDisk_any _ P S w9 (RD.out _ M9.out.bel) (by omega) (by omega)).mono ?_
  rintro e w10 ⟨v10, rfl, o10, b10⟩
  have M10 : Hid (LS W0 (.slice a1 P.length q1) (.slice a2 S.length q2) (.slice a3 P.length q3) (.slice a4 S.length q4) (.slice a5 P.length q5) (.slice a6 S.length q6) (.slice a7 P.length q7) (.slice a8 S.length q8) (.slice a9 l.length q9) B6 B7 B9 N5 N6 N7 (marksS 1 P.length) (marksP (1 + P.length) S.length) (marksW (1 + P.length + 2 * S.length) l.length) D T (marksS 1 D.length) (marksP (1 + D.length) T.length) w10) := M9.out.below b10
  have R10 := o10.row
  clear M9 b10 o10 c0 c1
  go_wp2_with fail
  refine (toWriteS_any _ l _ (RL.out _ M10.out.bel) (by omega)).mono ?_
  rintro e w11 ⟨v11, rfl, o11, b11⟩
  have M11 : Hid (LS W0 (.slice a1 P.length q1) (.slice a2 S.length q2) (.slice a3 P.length q3) (.slice a4 S.length q4) (.slice a5 P.length q5) (.slice a6 S.length q6) (.slice a7 P.length q7) (.slice a8 S.length q8) (.slice a9 l.length q9) B6 B7 B9 N5 N6 N7 (marksS 1 P.length) (marksP (1 + P.length) S.length) (marksW (1 + P.length + 2 * S.length) l.length) D T (marksS 1 D.length) (marksP (1 + D.length) T.length) w11) := M10.out.below b11
  have S10 := R10.below b11
  have S11 := Row.of_owns o11
  clear M10 b11 o11 R10
  go_wp2_with fail
  refine (implDo_any _ P S _ l _ S10 S11 (by omega) (by omega) HA.out).mono ?_
  rintro e w12 ⟨v12, rfl, o12, b12⟩
  rw [HD.out.1, HD.out.2.1] at o12
  obtain ⟨a10, q10, a11, q11, rfl⟩ := o12.shape
  have M12 : Hid (LS W0 (.slice a1 P.length q1) (.slice a2 S.length q2) (.slice a3 P.length q3) (.slice a4 S.length q4) (.slice a5 P.length q5) (.slice a6 S.length q6) (.slice a7 P.length q7) (.slice a8 S.length q8) (.slice a9 l.length q9) B6 B7 B9 N5 N6 N7 (marksS 1 P.length) (marksP (1 + P.length) S.length) (marksW (1 + P.length + 2 * S.length) l.length) D T (marksS 1 D.length) (marksP (1 + D.length) T.length) (w12.alloc (.cells #[.slice a10 D.length q10, .slice a11 T.length q11] 27))) := M11.out.below (Below.and b12 (bel_new _))
  have G12 : Hid (DiskRow (w12.alloc (.cells #[.slice a10 D.length q10, .slice a11 T.length q11] 27)) (.agg #[.slice a10 D.length q10, .slice a11 T.length q11]) D T) := (o12.row).below (bel_new _)
  obtain ⟨d0, d1, dl⟩ := (M11.out.b6.below b12).cells
  have l1 : ¬ B6 = w12.heap.size := by omega
  have l2 : ¬ w12.heap.size = B6 := by omega
  clear M11 S10 S11 b12 o12
  go_wp2_with fail
  refine (eqDisk_any _ _ D D T T _ G12.out M12.out.e6.row).mono ?_
  rintro e w13 ⟨rfl, b13⟩
  rw [show (decide (D = D) && decide (T = T)) = true by simp]
  have M13 : Hid (LS W0 (.slice a1 P.length q1) (.slice a2 S.length q2) (.slice a3 P.length q3) (.slice a4 S.length q4) (.slice a5 P.length q5) (.slice a6 S.length q6) (.slice a7 P.length q7) (.slice a8 S.length q8) (.slice a9 l.length q9) B6 B7 B9 N5 N6 N7 (marksS 1 P.length) (marksP (1 + P.length) S.length) (marksW (1 + P.length + 2 * S.length) l.length) D T (marksS 1 D.length) (marksP (1 + D.length) T.length) w13) := M12.out.below b13
  clear M12 b13 d0 d1 dl l1 l2 G12
  obtain ⟨c0, c1, _⟩ := M13.out.b9.cells
  go_wp2_with fail
  refine (heldDisk_any _ D.length T.length 1 w13 M13.out.g9.row hDl hTl (by decide) (by decide)).mono ?_
  rintro e w14 ⟨rfl, b14⟩
  have M14 : Hid (Below W0.heap.size W0 w14) := Below.and M13.out.bel b14
  clear M13 b14 c0 c1
  go_wp2
  go_ret
  exact ⟨rfl, M14.out⟩

end Go.Proofs.Ytmpngehhojlmmaa
