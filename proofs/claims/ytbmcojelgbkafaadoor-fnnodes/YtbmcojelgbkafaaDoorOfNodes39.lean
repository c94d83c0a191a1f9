/-
  The program's reader: a leaf.
-/
import Derived.Test.YtbmcojelgbkafaaDoorOfNodes38
import Derived.Test.YtbmcojelgbkafaaDoorOfNodes9
namespace Go.Proofs.YtbmcojelgbkafaaDoor
set_option maxRecDepth 100000
set_option maxHeartbeats 8000000
section
open Go.RowKit

def pairsN (bs : List Int) (at_ : Int) : Nat → Option (List (Int × Int) × Int)
 | 0 => some ([], at_)
 | k + 1 => match pairsN bs at_ k with
  | none => none
  | some (l, p) => match numsN bs p 2 with
   | some ([x, y], q) => some (l ++ [(x, y)], q)
   | _ => none
theorem cell_kept {F : Nat → Prop} {w w' : World} {b o : Nat} {v : Value} (h : w.cell? ⟨b, o, none⟩ = some v) (hc : Chg F w w') (hF : ¬ F b) : w'.cell? ⟨b, o, none⟩ = some v := by
 rw [← h]; exact World.cell?_of_block (hc.block b (cell_lt h) hF)
theorem numsN_two {bs : List Int} {p : Int} {l : List Int} {q : Int} (h : numsN bs p 2 = some (l, q)) : ∃ x y, l = [x, y] := by
 have := numsN_length h
 match l, this with
 | [x, y], _ => exact ⟨x, y, rfl⟩
theorem pairsN_none {bs : List Int} {at_ : Int} {k : Nat} (h : pairsN bs at_ k = none) : ∀ n, k ≤ n → pairsN bs at_ n = none := by
 intro n hn
 induction n with
 | zero =>
  obtain rfl : k = 0 := by omega
  exact h
 | succ n ih =>
  by_cases hk : k = n + 1
  ·rw [← hk]; exact h
  ·rw [pairsN, ih (by omega)]
theorem pairsN_length {bs : List Int} {at_ : Int} : ∀ {k : Nat} {l : List (Int × Int)} {p : Int}, pairsN bs at_ k = some (l, p) → l.length = k := by
 intro k
 induction k with
 | zero => intro l p h; simp [pairsN] at h; rw [h.1]; rfl
 | succ k ih =>
  intro l p h
  rw [pairsN] at h
  cases hq : pairsN bs at_ k with
  | none => rw [hq] at h; cases h
  | some lp =>
   obtain ⟨l', p'⟩ := lp
   rw [hq] at h
   simp only at h
   split at h
   ·simp only [Option.some.injEq, Prod.mk.injEq] at h
    rw [← h.1]; simp [ih hq]
   ·cases h
def sef5 (W : World) (R : Nat) (a b c d e : Value) : World := ((((W.setCell ⟨R, 0, none⟩ a).setCell ⟨R, 1, none⟩ b).setCell ⟨R, 2, none⟩ c).setCell ⟨R, 3, none⟩ d).setCell ⟨R, 4, none⟩ e
theorem sef5_at {W : World} {R : Nat} {t : TypeId} {x0 x1 x2 x3 x4 : Value} (a b c d e : Value) (h : W.heap[R]? = some (.cells #[x0, x1, x2, x3, x4] t (0, 0))) : (sef5 W R a b c d e).heap[R]? = some (.cells #[a, b, c, d, e] t (0, 0)) := by
 have h0 := heap_setCell_same W R 0 _ _ a h
 have h1 := heap_setCell_same _ R 1 _ _ b h0
 have h2 := heap_setCell_same _ R 2 _ _ c h1
 have h3 := heap_setCell_same _ R 3 _ _ d h2
 have h4 := heap_setCell_same _ R 4 _ _ e h3
 simpa [sef5] using h4
theorem sef5_chg (W : World) (R : Nat) (a b c d e : Value) : Chg (fun g => g = R) W (sef5 W R a b c d e) :=
 (((((Chg.refl (fun g => g = R) W).setAt R 0 rfl a).setAt R 1 rfl b).setAt R 2 rfl c).setAt R 3 rfl d).setAt R 4 rfl e
def leafN (bs : List Int) (at_ : Int) : Option (List (Int × Int) × Int) := match countN bs at_ 0 4 with
 | none => none
 | some (n, p) => pairsN bs p n.toNat

theorem Tryd.infoPair : (Tryd.prog.info? 52).map (fun i => (i.zero, i.size, i.bytes)) = some (some (.agg #[.int .i64 0, .int .i64 0]), 2, 16) := by kernel_rfl
def LeafPost (ea : Addr) (P : Nat) (base : Nat) (g : Option (List (Int × Int) × Int)) (e : Ending) (w' : World) : Prop := match g with
 | some (l, p) => ∃ v', e = .returned (.agg #[.bool true, v', .slice none 0 0, .slice none 0 0, .slice none 0 0]) ∧ OwnE w' base 52 2 v' l.length (flatP l) ∧ PlaceIs w' P p
 | none => e = .panicked (boom ea)
theorem flatP_oneC (l : List (Int × Int)) : ∀ y ∈ flatP l, y.oneCell' = true := flatP_one l
theorem roomP {n m : Nat} (h : n + m ≤ 100000) : n + m ≤ maxLen ∧ (n + m) * 16 ≤ 140737488355328 := ⟨by unfold maxLen; omega, by omega⟩

theorem leaf_any (ea : Addr) (v : Value) (bs : List Int) (P : Nat) (at_ : Int) (w : World) (h : Reads w v bs P at_ ea) :
  Calls Tryd.prog 36 #[.agg #[v, .pointer (some ⟨P, 0, none⟩)]] w fun e w' => LeafPost ea P w.heap.size (leafN bs at_) e w' ∧ Chg (fun g => g = P) w w' := by
 obtain ⟨i0, hi, hz0, hz1, hz2⟩ := info_parts Tryd.infoPair
 obtain ⟨av, bv, ov, cv, hv, _⟩ := id h.row
 have hPlt := h.place.lt
 have b1 : Below w.heap.size w (w.alloc (.cells #[v, .pointer (some ⟨P, 0, none⟩)] 48)) := bel_new _ _
 have n1 := heap_alloc_new w (.cells #[v, .pointer (some ⟨P, 0, none⟩)] 48)
 generalize hW1 : w.alloc (.cells #[v, .pointer (some ⟨P, 0, none⟩)] 48) = W1 at b1 n1
 have s1 : W1.heap.size = w.heap.size + 1 := by rw [← hW1]; simp
 have b2 : Below W1.heap.size W1 (W1.alloc (.cells #[.bool false, .slice none 0 0, .slice none 0 0, .slice none 0 0, .slice none 0 0] 29)) := bel_new _ _
 have n2 := heap_alloc_new W1 (.cells #[.bool false, .slice none 0 0, .slice none 0 0, .slice none 0 0, .slice none 0 0] 29)
 generalize hW2 : W1.alloc (.cells #[.bool false, .slice none 0 0, .slice none 0 0, .slice none 0 0, .slice none 0 0] 29) = W2 at b2 n2
 have s2 : W2.heap.size = W1.heap.size + 1 := by rw [← hW2]; simp
 have b3 : Below W2.heap.size W2 (W2.alloc (.cells #[.bool true, .slice none 0 0, .slice none 0 0, .slice none 0 0, .slice none 0 0] 29)) := bel_new _ _
 have n3 := heap_alloc_new W2 (.cells #[.bool true, .slice none 0 0, .slice none 0 0, .slice none 0 0, .slice none 0 0] 29)
 generalize hW3 : W2.alloc (.cells #[.bool true, .slice none 0 0, .slice none 0 0, .slice none 0 0, .slice none 0 0] 29) = W3 at b3 n3
 have s3 : W3.heap.size = W2.heap.size + 1 := by rw [← hW3]; simp
 have E3 : Hid (((w.alloc (.cells #[v, .pointer (some ⟨P, 0, none⟩)] 48)).alloc (.cells #[.bool false, .slice none 0 0, .slice none 0 0, .slice none 0 0, .slice none 0 0] 29)).alloc (.cells #[.bool true, .slice none 0 0, .slice none 0 0, .slice none 0 0, .slice none 0 0] 29) = W3) := by show _ = _; rw [hW1, hW2, hW3]
 rw [s1] at n2
 rw [s2, s1] at n3
 have B3 : Below w.heap.size w W3 := Below.and b1 (Below.and b2 b3)
 have r3 : W3.heap[w.heap.size]? = some (Obj.cells #[v, .pointer (some ⟨P, 0, none⟩)] 48 (0, 0)) := (row_chg n1 (Chg.of_below (F := fun _ => False) (Below.and b2 b3)) id)
 have z3 : W3.heap[w.heap.size + 1]? = some (Obj.cells #[.bool false, .slice none 0 0, .slice none 0 0, .slice none 0 0, .slice none 0 0] 29 (0, 0)) := (row_chg n2 (Chg.of_below (F := fun _ => False) b3) id)
 have hs3 : w.heap.size + 1 + 1 + 1 ≤ W3.heap.size := by omega
 have HW : Hid (Reads w v bs P at_ ea) := h
 have H0 : Hid _ := And.intro (h.below B3) (And.intro B3 (And.intro r3 (And.intro z3 n3)))
 clear h b1 n1 hW1 s1 b2 n2 hW2 s2 b3 n3 hW3 s3 B3 r3 z3
 subst hv
 go_enter Tryd.func36, Tryd.ntmps36
 go_wp2_with fail
 rw [E3.out]
 refine (count_any ea _ bs P at_ 0 4 W3 H0.out.1).mono ?_
 rintro e w4 ⟨hn, hc⟩
 cases hg : countN bs at_ 0 4 with
 | none =>
  rw [hg] at hn
  have hn' : e = .panicked (boom ea) := hn
  subst hn'
  have G : Hid (leafN bs at_ = none) := by show _ = _; unfold leafN; rw [hg]
  have FIN : Hid (Chg (fun g => g = P) w w4) := (Chg.of_below (F := fun g => g = P) H0.out.2.1).trans hc (fun _ _ h => h)
  clear hn hg hc
  go_wp2
  rw [G.out]
  exact ⟨rfl, rfl, FIN.out⟩
 | some np =>
  obtain ⟨nn, p4⟩ := np
  rw [hg] at hn
  obtain ⟨rfl, pl4⟩ := hn
  obtain ⟨hn0, hn4, _⟩ := countN_in hg
  obtain ⟨n, rfl⟩ := Int.eq_ofNat_of_zero_le hn0
  have G : Hid (leafN bs at_ = pairsN bs p4 n) := by show _ = _; unfold leafN; rw [hg]; rfl
  have H4 : Hid (Reads w4 (.slice av bs.length cv) bs P p4 ea ∧ w4.heap[w.heap.size]? = some (Obj.cells #[.slice av bs.length cv, .pointer (some ⟨P, 0, none⟩)] 48 (0, 0)) ∧ w4.heap[w.heap.size + 1]? = some (Obj.cells #[.bool false, .slice none 0 0, .slice none 0 0, .slice none 0 0, .slice none 0 0] 29 (0, 0)) ∧ w4.heap[w.heap.size + 1 + 1]? = some (Obj.cells #[.bool true, .slice none 0 0, .slice none 0 0, .slice none 0 0, .slice none 0 0] 29 (0, 0)) ∧ Chg (fun g => g = P) w w4) :=
   ⟨H0.out.1.next hc pl4, row_chg H0.out.2.2.1 hc (by omega), row_chg H0.out.2.2.2.1 hc (by omega), row_chg H0.out.2.2.2.2 hc (by omega), (Chg.of_below (F := fun g => g = P) H0.out.2.1).trans hc (fun _ _ h => h)⟩
  have hs4 : w.heap.size + 1 + 1 + 1 ≤ w4.heap.size := Nat.le_trans hs3 hc.size
  clear hg hc H0 E3 pl4 hn0 hs3
  go_wp2_with fail
  go_loopw [8] (fun i wr => ∃ (k : Nat) (l : List (Int × Int)) (q : Int) (vp : Value), k ≤ n ∧ i = .int .i64 k ∧ pairsN bs p4 k = some (l, q) ∧ OwnE wr w4.heap.size 52 2 vp l.length (flatP l) ∧ PlaceIs wr P q ∧ wr.heap[w.heap.size + 1 + 1]? = some (.cells #[.bool true, vp, .slice none 0 0, .slice none 0 0, .slice none 0 0] 29 (0, 0)) ∧ Chg (fun g => g = P ∨ g = w.heap.size + 1 + 1) w4 wr)
   (fun i _ => n - (intOf i).toNat)
  case atStart => exact ⟨0, [], p4, .slice none 0 0, Nat.zero_le _, rfl, rfl, OwnE.nil _ _ _ _, H4.out.1.place, H4.out.2.2.2.1, Chg.refl _ _⟩
  case round =>
   obtain ⟨k, l, q, vp, hkn, rfl, hN, hown, hpl, hbx, hch⟩ := hrel
   have hl : l.length ≤ 4 := by rw [pairsN_length hN]; omega
   have CW : Chg (fun g => g = P) w wr := H4.out.2.2.2.2.trans hch (fun g hg e => by rcases e with e | e; exact e; omega)
   have HR : Hid (Reads wr (.slice av bs.length cv) bs P q ea) := HW.out.next CW hpl
   have c0 : wr.cell? ⟨w.heap.size, 0, none⟩ = some (.slice av bs.length cv) := by rw [box_cell H4.out.2.1 hch (by omega)]; rfl
   have c1 : wr.cell? ⟨w.heap.size, 1, none⟩ = some (.pointer (some ⟨P, 0, none⟩)) := by rw [box_cell H4.out.2.1 hch (by omega)]; rfl
   obtain ⟨ap, qp, rfl⟩ := hown.slice
   have BS := hch.size
   have I : Hid (OwnE wr w4.heap.size 52 2 (.slice ap l.length qp) l.length (flatP l) ∧ wr.heap[w.heap.size + 1 + 1]? = some (.cells #[.bool true, .slice ap l.length qp, .slice none 0 0, .slice none 0 0, .slice none 0 0] 29 (0, 0)) ∧ Chg (fun g => g = P ∨ g = w.heap.size + 1 + 1) w4 wr ∧ Chg (fun g => g = P) w wr) := ⟨hown, hbx, hch, CW⟩
   have HN : Hid _ := hN
   clear hown hch hN CW
   by_cases hlt : k < n
   ·clear hpl hbx
    go_wp2_with fail
    refine (nums_any ea _ bs P q 2 (by decide) wr HR.out).mono ?_
    rintro e w5 ⟨hn5, hc5⟩
    cases hg : numsN bs q 2 with
    | none =>
     rw [hg] at hn5
     have hn' : e = .panicked (boom ea) := hn5
     subst hn'
     have GN : Hid (pairsN bs p4 n = none) := pairsN_none (k := k + 1) (by rw [pairsN, HN.out]; simp only [hg]) n hlt
     have FIN : Hid (Chg (fun g => g = P) w w5) := I.out.2.2.2.trans hc5 (fun _ _ h => h)
     clear hn5 hg hc5
     go_wp2
     rw [G.out, GN.out]
     exact ⟨rfl, rfl, FIN.out⟩
    | some lq =>
     obtain ⟨l5, q5⟩ := lq
     obtain ⟨x, y, rfl⟩ := numsN_two hg
     rw [hg] at hn5
     obtain ⟨v5, rfl, o5, p5⟩ := hn5
     have GN : Hid (pairsN bs p4 (k + 1) = some (l ++ [(x, y)], q5)) := by show _ = _; rw [pairsN, HN.out]; simp only [hg]
     have hex : ∃ g5 cp5, v5 = .slice (some ⟨g5, 0, none⟩) 2 cp5 ∧ wr.heap.size ≤ g5 := by
      obtain ⟨_, ⟨e, e2⟩ | ⟨g, cap', cur, e, hg', _⟩⟩ := o5
      ·simp at e2
      ·exact ⟨g, cap', e, hg'⟩
     obtain ⟨g5, cp5, rfl, hg5⟩ := hex
     have d0 : w5.cell? ⟨g5, 0, none⟩ = some (.int .i64 x) := (World.ownsRow.cellAt o5 0 (by decide)).trans rfl
     have d1 : w5.cell? ⟨g5, 1, none⟩ = some (.int .i64 y) := (World.ownsRow.cellAt o5 1 (by decide)).trans rfl
     have bx5 : w5.heap[w.heap.size + 1 + 1]? = some (.cells #[.bool true, .slice ap l.length qp, .slice none 0 0, .slice none 0 0, .slice none 0 0] 29 (0, 0)) := row_chg I.out.2.1 hc5 (by omega)
     have own5 : OwnE w5 w4.heap.size 52 2 (.slice ap l.length qp) l.length (flatP l) := I.out.1.chg hc5 (fun g hg e => by have := (I.out.1.lt g hg).1; omega)
     have C5 : Chg (fun g => g = P ∨ g = w.heap.size + 1 + 1) w4 w5 := I.out.2.2.1.trans hc5 (fun _ _ h => .inl h)
     have J : Hid _ := And.intro own5 (And.intro bx5 (And.intro C5 p5))
     have d2 : w5.cell? ⟨w.heap.size + 1 + 1, 1, none⟩ = some (.slice ap l.length qp) := by rw [cell_of_cells bx5]; rfl
     have hg5lt : g5 < w5.heap.size := cell_lt d0
     have BS5 : w4.heap.size ≤ w5.heap.size := C5.size
     have hS : (fun u => u.cell? ⟨w.heap.size + 1 + 1, 1, none⟩ = some (.slice ap l.length qp) ∧ u.cell? ⟨g5, 0, none⟩ = some (.int .i64 x) ∧ u.cell? ⟨g5, 1, none⟩ = some (.int .i64 y)) w5.drew := ⟨d2, d0, d1⟩
     have hcp : 2 ≤ cp5 := by
      obtain ⟨_, ⟨e, e2⟩ | ⟨g, cap', cur, e, hg', _, hn', _⟩⟩ := o5
      ·simp at e2
      ·simp at e; simp at hn'; omega
     clear hg hc5 o5 p5 bx5 own5 C5 c0 c1 d0 d1 d2
     go_wp2_with fail
     refine wp_region_last (fun u => u.cell? ⟨w.heap.size + 1 + 1, 1, none⟩ = some (.slice ap l.length qp) ∧ u.cell? ⟨g5, 0, none⟩ = some (.int .i64 x) ∧ u.cell? ⟨g5, 1, none⟩ = some (.int .i64 y)) [_, _, _, _, _, _, _, _, _, _, _, _] _ rfl (by kernel_rfl) (by kernel_rfl) ?_
     have JD : Hid (OwnE w5.drew w4.heap.size 52 2 (.slice ap l.length qp) l.length (flatP l) ∧ w5.drew.heap[w.heap.size + 1 + 1]? = some (.cells #[.bool true, .slice ap l.length qp, .slice none 0 0, .slice none 0 0, .slice none 0 0] 29 (0, 0)) ∧ Chg (fun g => g = P ∨ g = w.heap.size + 1 + 1) w4 w5.drew ∧ PlaceIs w5.drew P q5) := ⟨J.out.1.below (Below.refl _ _).drew, J.out.2.1, J.out.2.2.1.drew, J.out.2.2.2⟩
     have hdl : w5.drew.heap.size = w5.heap.size := rfl
     have BSd : w4.heap.size ≤ w5.drew.heap.size := BS5
     have hg5d : g5 < w5.drew.heap.size := hg5lt
     clear J hdl
     generalize w5.drew = wd at *
     refine wpAnyH_take (i := 0) (oi := ⟨_, _, _, _, _, _⟩) (v := ?_) rfl (by kernel_rfl) (by kernel_rfl) (by kernel_rfl) (fun _ _ _ h => h) (Or.inl ⟨by rfl, ?_⟩) (by assumption) ?_
     rotate_left
     ·((intro w hSw; (try dsimp only at hSw); go_simp); (try with_reducible rfl))
     try simp only [Act.put, List.setIfInBounds_toArray, List.set_cons_zero, List.set_cons_succ]
     refine wpAnyH_take (i := 1) (oi := ⟨_, _, _, _, _, _⟩) (v := ?_) rfl (by kernel_rfl) (by kernel_rfl) (by kernel_rfl) (fun _ _ _ h => h) (Or.inl ⟨by rfl, ?_⟩) (by assumption) ?_
     rotate_left
     ·((intro w hSw; (try dsimp only at hSw); go_simp); (try with_reducible rfl))
     try simp only [Act.put, List.setIfInBounds_toArray, List.set_cons_zero, List.set_cons_succ]
     refine wpAnyH_take (i := 2) (oi := ⟨_, _, _, _, _, _⟩) (v := ?_) rfl (by kernel_rfl) (by kernel_rfl) (by kernel_rfl) (fun _ _ _ h => h) (Or.inl ⟨by rfl, ?_⟩) (by assumption) ?_
     rotate_left
     ·((intro w hSw; (try dsimp only at hSw); go_simp); (try with_reducible rfl))
     try simp only [Act.put, List.setIfInBounds_toArray, List.set_cons_zero, List.set_cons_succ]
     refine wpAnyH_take (i := 3) (oi := ⟨_, _, _, _, _, _⟩) (v := ?_) rfl (by kernel_rfl) (by kernel_rfl) (by kernel_rfl) (fun _ _ _ h => h) (Or.inl ⟨by rfl, ?_⟩) (by assumption) ?_
     rotate_left
     ·((intro w hSw; (try dsimp only at hSw); go_simp); (try with_reducible rfl))
     try simp only [Act.put, List.setIfInBounds_toArray, List.set_cons_zero, List.set_cons_succ]
     refine wpAnyH_take (i := 4) (oi := ⟨_, _, _, _, _, _⟩) (v := ?_) rfl (by kernel_rfl) (by kernel_rfl) (by kernel_rfl) (fun _ _ _ h => h) (Or.inl ⟨by rfl, ?_⟩) (by assumption) ?_
     rotate_left
     ·((intro w hSw; (try dsimp only at hSw); go_simp); (try with_reducible rfl))
     try simp only [Act.put, List.setIfInBounds_toArray, List.set_cons_zero, List.set_cons_succ]
     refine wpAnyH_take (i := 5) (oi := ⟨_, _, _, _, _, _⟩) (v := ?_) rfl (by kernel_rfl) (by kernel_rfl) (by kernel_rfl) (fun _ _ _ h => h) (Or.inl ⟨by rfl, ?_⟩) (by assumption) ?_
     rotate_left
     ·((intro w hSw; (try dsimp only at hSw); go_simp); (try with_reducible rfl))
     try simp only [Act.put, List.setIfInBounds_toArray, List.set_cons_zero, List.set_cons_succ]
     refine wpAnyH_take (i := 6) (oi := ⟨_, _, _, _, _, _⟩) (v := ?_) rfl (by kernel_rfl) (by kernel_rfl) (by kernel_rfl) (fun _ _ _ h => h) (Or.inl ⟨by rfl, ?_⟩) (by assumption) ?_
     rotate_left
     ·((intro w hSw; (try dsimp only at hSw); go_simp); (try with_reducible rfl))
     try simp only [Act.put, List.setIfInBounds_toArray, List.set_cons_zero, List.set_cons_succ]
     refine wpAnyH_take (i := 7) (oi := ⟨_, _, _, _, _, _⟩) (v := ?_) rfl (by kernel_rfl) (by kernel_rfl) (by kernel_rfl) (fun _ _ _ h => h) (Or.inl ⟨by rfl, ?_⟩) (by assumption) ?_
     rotate_left
     ·((intro w hSw; (try dsimp only at hSw); go_simp); (try with_reducible rfl))
     try simp only [Act.put, List.setIfInBounds_toArray, List.set_cons_zero, List.set_cons_succ]
     refine wpAnyH_take (i := 8) (oi := ⟨_, _, _, _, _, _⟩) (v := ?_) rfl (by kernel_rfl) (by kernel_rfl) (by kernel_rfl) (fun _ _ _ h => h) (Or.inl ⟨by rfl, ?_⟩) (by assumption) ?_
     rotate_left
     ·((intro w hSw; (try dsimp only at hSw); go_simp); (try with_reducible rfl))
     try simp only [Act.put, List.setIfInBounds_toArray, List.set_cons_zero, List.set_cons_succ]
     refine wpAnyH_ready (rs := [9]) (by kernel_rfl) (by simp) ?_
     refine AllReadyH.cons (o := ⟨_, _, _, _, _, _⟩) rfl (fun K hK => ?_) AllReadyH.nil
     go_simp
     refine hK.out _ _ ⟨cell_lowB (bel_new wd _) (cell_lt hS.1) hS.1, cell_lowB (bel_new wd _) (cell_lt hS.2.1) hS.2.1, cell_lowB (bel_new wd _) (cell_lt hS.2.2) hS.2.2⟩ (fun hH => ?_)
     clear hK K
     try simp only [Act.put, List.setIfInBounds_toArray, List.set_cons_zero, List.set_cons_succ]
     refine wpAnyH_ready (rs := [10]) (by kernel_rfl) (by simp) ?_
     refine AllReadyH.cons (o := ⟨_, _, _, _, _, _⟩) rfl (fun K hK => ?_) AllReadyH.nil
     have HR1 : Hid _ := roomP (n := l.length) (m := 1) (by omega)
     refine step_appE (wd.alloc (.cells #[.int .i64 x, .int .i64 y] 52)) rfl _ _ 24 rfl w4.heap.size 52 i0 _ 2 16 Tryd.underlying24 hi hz0 hz1 hz2 rfl (by decide) (.slice ap l.length qp) l.length (flatP l) rfl (JD.out.1.below (bel_new _ _)) (.slice (some ⟨wd.heap.size, 0, none⟩) 1 1) 1 (flatP [(x, y)]) rfl (Row.laid wd (flatP [(x, y)]) 52 _ rfl) rfl (flatP_oneC _) HR1.out.1 HR1.out.2 (by simp; omega) ?_
     intro v6 w6 A6
     obtain ⟨own6, ch6, _, _⟩ := A6
     have hlo : ∀ g, wrB (.slice ap l.length qp) g → w4.heap.size ≤ g := fun g hg => (JD.out.1.lt g hg).1
     have bx6 : w6.heap[w.heap.size + 1 + 1]? = some (.cells #[.bool true, .slice ap l.length qp, .slice none 0 0, .slice none 0 0, .slice none 0 0] 29 (0, 0)) := row_chg (row_chg JD.out.2.1 (Chg.of_below (F := fun _ => False) (bel_new wd _)) id) ch6 (fun e => by have := hlo _ e; omega)
     have m2 : w6.cell? ⟨w.heap.size + 1 + 1, 1, none⟩ = some (.slice ap l.length qp) := by rw [cell_of_cells bx6]; rfl
     have f2 : w6.frozen? ⟨w.heap.size + 1 + 1, 1, none⟩ = false := frozen_of_cells bx6
     have hg5n : ¬ wrB (.slice ap l.length qp) g5 := fun e => by have := (I.out.1.lt g5 e).2; omega
     have m0 : w6.cell? ⟨g5, 0, none⟩ = some (.int .i64 x) := cell_kept (cell_lowB (bel_new wd _) (cell_lt hS.2.1) hS.2.1) ch6 hg5n
     have m1 : w6.cell? ⟨g5, 1, none⟩ = some (.int .i64 y) := cell_kept (cell_lowB (bel_new wd _) (cell_lt hS.2.2) hS.2.2) ch6 hg5n
     obtain ⟨a6, q6, hv6⟩ := own6.slice
     have own6' : OwnE w6 w4.heap.size 52 2 v6 (l ++ [(x, y)]).length (flatP (l ++ [(x, y)])) := by
      rw [flatP_append]; simpa using own6
     subst hv6
     have C6 : Chg (fun g => g = P ∨ g = w.heap.size + 1 + 1) w4 w6 := ((JD.out.2.2.1).alloc _).trans ch6 (fun g hg e => by have := hlo g e; omega)
     have pl6 : PlaceIs w6 P q5 := by
      have h1 := (ch6.block P (by have := JD.out.2.2.2.lt; simp; omega) (fun e => by have := hlo P e; omega))
      unfold PlaceIs; rw [h1]; exact (JD.out.2.2.2.below (bel_new wd _))
     have bxs := heap_setCell_same w6 (w.heap.size + 1 + 1) 1 _ _ (.slice a6 (l.length + 1) q6) bx6
     have FIN : Hid (OwnE (w6.setCell ⟨w.heap.size + 1 + 1, 1, none⟩ (.slice a6 (l.length + 1) q6)) w4.heap.size 52 2 (.slice a6 (l.length + 1) q6) (l ++ [(x, y)]).length (flatP (l ++ [(x, y)])) ∧ PlaceIs (w6.setCell ⟨w.heap.size + 1 + 1, 1, none⟩ (.slice a6 (l.length + 1) q6)) P q5 ∧ (w6.setCell ⟨w.heap.size + 1 + 1, 1, none⟩ (.slice a6 (l.length + 1) q6)).heap[w.heap.size + 1 + 1]? = some (.cells #[.bool true, .slice a6 (l.length + 1) q6, .slice none 0 0, .slice none 0 0, .slice none 0 0] 29 (0, 0)) ∧ Chg (fun g => g = P ∨ g = w.heap.size + 1 + 1) w4 (w6.setCell ⟨w.heap.size + 1 + 1, 1, none⟩ (.slice a6 (l.length + 1) q6))) := by
      have hcs : Chg (fun g => g = w.heap.size + 1 + 1) w6 (w6.setCell ⟨w.heap.size + 1 + 1, 1, none⟩ (.slice a6 (l.length + 1) q6)) := (Chg.refl (fun g => g = w.heap.size + 1 + 1) w6).setAt (w.heap.size + 1 + 1) 1 rfl _
      refine ⟨own6'.chg hcs (fun g hg e => by have := (own6'.lt g hg).1; omega), ?_, by simpa using bxs, C6.trans hcs (fun _ _ h => .inr h)⟩
      unfold PlaceIs
      rw [hcs.block P pl6.lt (by omega)]
      exact pl6
     clear own6 own6' ch6 bx6 bxs C6 pl6 hlo JD hg5n
     refine hK.out _ _ ⟨m2, m0, m1⟩ (fun hH => ?_)
     clear hK K
     try simp only [Act.put, List.setIfInBounds_toArray, List.set_cons_zero, List.set_cons_succ]
     refine wpAnyH_take (i := 11) (oi := ⟨_, _, _, _, _, _⟩) (v := ?_) rfl (by kernel_rfl) (by kernel_rfl) (by kernel_rfl) (fun _ _ _ h => h) (Or.inl ⟨by rfl, ?_⟩) (by assumption) ?_
     rotate_left
     ·((intro w hSw; (try dsimp only at hSw); go_simp); (try with_reducible rfl))
     try simp only [Act.put, List.setIfInBounds_toArray, List.set_cons_zero, List.set_cons_succ]
     refine wpAnyH_done (by kernel_rfl) ?_ _
     show Oper.wp _ _ _ _ _ _
     go_simp
     go_wp2
     go_roundw
     case rel => exact ⟨k + 1, l ++ [(x, y)], q5, _, by omega, by go_num, GN.out, FIN.out.1, FIN.out.2.1, FIN.out.2.2.1, FIN.out.2.2.2⟩
     case measure => simp [intOf]; omega
   ·have hkk : k = n := by omega
    subst hkk
    have hz : wr.heap[w.heap.size + 1]? = some (Obj.cells #[.bool false, .slice none 0 0, .slice none 0 0, .slice none 0 0, .slice none 0 0] 29 (0, 0)) := row_chg H4.out.2.2.1 I.out.2.2.1 (by omega)
    have k2 : ∀ j, wr.cell? ⟨w.heap.size + 1 + 1, j, none⟩ = #[Value.bool true, .slice ap l.length qp, .slice none 0 0, .slice none 0 0, .slice none 0 0][j]? := fun j => cell_of_cells hbx
    have k1 : ∀ j, wr.cell? ⟨w.heap.size + 1, j, none⟩ = #[Value.bool false, .slice none 0 0, .slice none 0 0, .slice none 0 0, .slice none 0 0][j]? := fun j => cell_of_cells hz
    have f1 : ∀ j, wr.frozen? ⟨w.heap.size + 1, j, none⟩ = false := fun j => frozen_of_cells hz
    have HZ : Hid _ := And.intro hpl hz
    clear hpl hbx hz
    go_wp2
    have hS5 := sef5_at (.bool true) (.slice ap l.length qp) (.slice none 0 0) (.slice none 0 0) (.slice none 0 0) HZ.out.2
    have hC5 := sef5_chg wr (w.heap.size + 1) (.bool true) (.slice ap l.length qp) (.slice none 0 0) (.slice none 0 0) (.slice none 0 0)
    unfold sef5 at hS5 hC5
    have kk : ∀ j, (((((wr.setCell ⟨w.heap.size + 1, 0, none⟩ (.bool true)).setCell ⟨w.heap.size + 1, 1, none⟩ (.slice ap l.length qp)).setCell ⟨w.heap.size + 1, 2, none⟩ (.slice none 0 0)).setCell ⟨w.heap.size + 1, 3, none⟩ (.slice none 0 0)).setCell ⟨w.heap.size + 1, 4, none⟩ (.slice none 0 0)).cell? ⟨w.heap.size + 1, j, none⟩ = #[Value.bool true, .slice ap l.length qp, .slice none 0 0, .slice none 0 0, .slice none 0 0][j]? := fun j => cell_of_cells hS5
    generalize (((((wr.setCell ⟨w.heap.size + 1, 0, none⟩ (.bool true)).setCell ⟨w.heap.size + 1, 1, none⟩ (.slice ap l.length qp)).setCell ⟨w.heap.size + 1, 2, none⟩ (.slice none 0 0)).setCell ⟨w.heap.size + 1, 3, none⟩ (.slice none 0 0)).setCell ⟨w.heap.size + 1, 4, none⟩ (.slice none 0 0)) = WF at *
    refine bodyPost_ret (v := .agg #[.bool true, .slice ap l.length qp, .slice none 0 0, .slice none 0 0, .slice none 0 0]) (by simp [results, Tryd.results36, go_sem, kk]) rfl ?_
    rw [G.out, HN.out]
    refine ⟨⟨_, rfl, ?_, ?_⟩, I.out.2.2.2.trans hC5 (fun g hg e => by omega)⟩
    ·exact (I.out.1.chg hC5 (fun g hg e => by have := (I.out.1.lt g hg).1; omega)).mono (by omega)
    ·unfold PlaceIs
     rw [hC5.block P HZ.out.1.lt (by omega)]
     exact HZ.out.1
end
end Go.Proofs.YtbmcojelgbkafaaDoor
