/-
  The contract of the model's l4Put.
-/
import Derived.Test.YtekcnibohikmdaaOfWrites10
import Derived.Deep.DeepCutAuto
namespace Go.Proofs.Ytekcnibohikmdaa
set_option maxRecDepth 100000
set_option maxHeartbeats 8000000
section
open Go.RowKit

theorem al1 (w : World) (o : Obj) : Below w.heap.size w (w.alloc o) := (Below.refl _ _).alloc (Nat.le_refl _) o
theorem al2 (w : World) (o o' : Obj) : Below w.heap.size w ((w.alloc o).alloc o') := (al1 w o).alloc (by simp) o'
theorem al3 (w : World) (o o' o'' : Obj) : Below w.heap.size w (((w.alloc o).alloc o').alloc o'') := (al2 w o o').alloc (by simp; omega) o''
theorem BoxM.drew {w : World} {L : Nat} {A : Array Value} (h : BoxM w L A) : BoxM w.drew L A := h
theorem BoxM.app {W w1 : World} {base e size n L g : Nat} {v : Value} {xs : List Value} {A : Array Value} (h : BoxM W L A) (a : AppTo W base e size (.slice (some ⟨g, 0, none⟩) 0 0) n xs v w1) : BoxM w1 L A := h.chg a.2.1 (wrB_zero _ _)
theorem next_row {w1 W2 w2 : World} {base base' e1 s1 n1 e2 s2 n2 g : Nat} {v1 v2 : Value} {xs1 xs2 : List Value} (h1 : OwnE w1 base e1 s1 v1 n1 xs1) (hb : Below w1.heap.size w1 W2) (a2 : AppTo W2 base' e2 s2 (.slice (some ⟨g, 0, none⟩) 0 0) n2 xs2 v2 w2) :
  OwnE w2 base e1 s1 v1 n1 xs1 ∧ ∀ g, wrB v1 g → ¬ wrB v2 g := by
 refine ⟨(h1.below hb).chg a2.2.1 (fun g _ h => wrB_zero _ _ h), fun g' hg hg2 => ?_⟩
 have h3 := (h1.lt g' hg).2
 have h4 := hb.size
 rcases a2.2.2.2 g' hg2 with h | h
 ·exact wrB_zero _ _ h
 ·omega
theorem OwnE.ne_box {w : World} {base e size n L : Nat} {v : Value} {xs : List Value} {A : Array Value} (h : OwnE w base e size v n xs) (he : e ≠ 95) (hL : BoxM w L A) : ¬ wrB v L := by
 rintro ⟨k, cap, rfl, hc⟩
 rcases h with h | ⟨_, _, g, hg⟩
 ·obtain ⟨_, ⟨h1, _⟩ | ⟨g, cap', cur, h1, hg, hh, _⟩⟩ := h
  ·simp at h1
  ·simp at h1
   obtain ⟨rfl, _⟩ := h1
   have h2 : w.heap[L]? = some (.cells A 95 (0, 0)) := hL
   rw [h2] at hh
   simp at hh
   exact he hh.2.symm
 ·simp at hg
  omega
abbrev set2 (u : World) (L : Nat) (t0 t1 : Value) : World := (u.setCell ⟨L, 0, none⟩ t0).setCell ⟨L, 1, none⟩ t1
theorem BoxM.set2 {u : World} {L : Nat} {x0 x1 : Value} (h : BoxM u L #[x0, x1]) (t0 t1 : Value) : BoxM (set2 u L t0 t1) L #[t0, t1] :=
 heap_setCell_same _ L 1 _ 95 t1 (heap_setCell_same u L 0 _ 95 t0 h)
theorem BoxM.set0 {u : World} {L : Nat} {x0 x1 : Value} (h : BoxM u L #[x0, x1]) (t0 : Value) : BoxM (u.setCell ⟨L, 0, none⟩ t0) L #[t0, x1] := heap_setCell_same u L 0 _ 95 t0 h
theorem BoxM.set1 {u : World} {L : Nat} {x0 x1 : Value} (h : BoxM u L #[x0, x1]) (t1 : Value) : BoxM (u.setCell ⟨L, 1, none⟩ t1) L #[x0, t1] := heap_setCell_same u L 1 _ 95 t1 h
theorem chg_set2 (u : World) (L : Nat) (t0 t1 : Value) : Chg (fun g => g = L) u (set2 u L t0 t1) := ((Chg.refl (fun g => g = L) u).setAt L 0 rfl t0).setAt L 1 rfl t1
theorem chg_set1 (u : World) (L j : Nat) (t : Value) : Chg (fun g => g = L) u (u.setCell ⟨L, j, none⟩ t) := (Chg.refl (fun g => g = L) u).setAt L j rfl t
theorem OwnE.set2 {w : World} {base e size n L : Nat} {v : Value} {xs : List Value} {A : Array Value} (h : OwnE w base e size v n xs) (he : e ≠ 95) (hL : BoxM w L A) (t0 t1 : Value) : OwnE (set2 w L t0 t1) base e size v n xs :=
 h.chg (chg_set2 w L t0 t1) (fun _ hg e => h.ne_box he hL (e ▸ hg))
theorem OwnE.set1 {w : World} {base e size n L : Nat} {v : Value} {xs : List Value} {A : Array Value} (h : OwnE w base e size v n xs) (he : e ≠ 95) (hL : BoxM w L A) (j : Nat) (t : Value) : OwnE (w.setCell ⟨L, j, none⟩ t) base e size v n xs :=
 h.chg (chg_set1 w L j t) (fun _ hg e => h.ne_box he hL (e ▸ hg))
theorem OwnE.drew {w : World} {base e size n : Nat} {v : Value} {xs : List Value} (h : OwnE w base e size v n xs) : OwnE w.drew base e size v n xs := h.below (Below.refl _ _).drew
theorem OwnE.alloc {w : World} {base e size n : Nat} {v : Value} {xs : List Value} (h : OwnE w base e size v n xs) (o : Obj) : OwnE (w.alloc o) base e size v n xs := h.below (al1 w o)
theorem flatT_drop (l : List TV) (k : Nat) : (flatT l).drop (k * 5) = flatT (l.drop k) := by
 induction k generalizing l with
 | zero => simp
 | succ k ih =>
  cases l with
  | nil => simp [flatT]
  | cons a l =>
   rw [flatT_cons, show (k + 1) * 5 = k * 5 + 1 + 1 + 1 + 1 + 1 by omega]
   simp only [List.drop_succ_cons]
   exact ih l
theorem flatT_take (l : List TV) (k : Nat) : (flatT l).take (k * 5) = flatT (l.take k) := by
 induction k generalizing l with
 | zero => simp [flatT]
 | succ k ih =>
  cases l with
  | nil => simp [flatT]
  | cons a l =>
   rw [flatT_cons, show (k + 1) * 5 = k * 5 + 1 + 1 + 1 + 1 + 1 by omega]
   simp only [List.take_succ_cons, flatT_cons]
   rw [ih l]
theorem flatI_drop (l : List Int) (k : Nat) : (flatI l).drop (k * 1) = flatI (l.drop k) := by simp [flatI, List.map_drop]
theorem flatI_take (l : List Int) (k : Nat) : (flatI l).take (k * 1) = flatI (l.take k) := by simp [flatI, List.map_take]
theorem flatI_append (l m : List Int) : flatI (l ++ m) = flatI l ++ flatI m := by simp [flatI]
theorem flatI_one (l : List Int) : ∀ y ∈ flatI l, y.oneCell' = true := by
 intro y hy
 simp [flatI] at hy
 obtain ⟨a, _, rfl⟩ := hy
 rfl
theorem one_take {l : List TV} (h : ∀ y ∈ flatT l, y.oneCell' = true) (k : Nat) : ∀ y ∈ flatT (l.take k), y.oneCell' = true := fun y hy => h y (by rw [← flatT_take] at hy; exact List.mem_of_mem_take hy)
theorem one_drop {l : List TV} (h : ∀ y ∈ flatT l, y.oneCell' = true) (k : Nat) : ∀ y ∈ flatT (l.drop k), y.oneCell' = true := fun y hy => h y (by rw [← flatT_drop] at hy; exact List.mem_of_mem_drop hy)
theorem Row.headT {w : World} {b o q : Nat} {l : List TV} (h : Row w (.slice (some ⟨b, o, none⟩) l.length q) l.length (flatT l)) (i : Nat) (hi : i ≤ l.length) (hl : 0 < l.length) : Row w (.slice (some ⟨b, o, none⟩) i q) i (flatT (l.take i)) := by
 have := h.sub (size := 5) 0 i (Nat.zero_le _) hi hl
 rw [Nat.zero_mul, List.drop_zero, Nat.sub_zero, flatT_take] at this
 simpa [Go.WideShapes.add_plain] using this
theorem Row.headI {w : World} {b o q : Nat} {l : List Int} (h : Row w (.slice (some ⟨b, o, none⟩) l.length q) l.length (flatI l)) (i : Nat) (hi : i ≤ l.length) (hl : 0 < l.length) : Row w (.slice (some ⟨b, o, none⟩) i q) i (flatI (l.take i)) := by
 have := h.sub (size := 1) 0 i (Nat.zero_le _) hi hl
 rw [Nat.zero_mul, List.drop_zero, Nat.sub_zero, flatI_take] at this
 simpa [Go.WideShapes.add_plain] using this

theorem l4Put_rows (b1 o1 q1 b2 o2 q2 : Nat) (a5 : Option Addr) (q5 : Nat) (a6 : Option Addr) (q6 : Nat) (xs ys : List TV) (cs ds : List Int) (i : Nat) (w : World)
  (h1 : Row w (.slice (some ⟨b1, o1, none⟩) xs.length q1) xs.length (flatT xs)) (h2 : Row w (.slice (some ⟨b2, o2, none⟩) cs.length q2) cs.length (flatI cs))
  (h5 : Row w (.slice a5 ys.length q5) ys.length (flatT ys)) (h6 : Row w (.slice a6 ds.length q6) ds.length (flatI ds))
  (hi : i < xs.length) (hc : cs.length + 1 = xs.length) (hc0 : 0 < cs.length) (hx : xs.length ≤ 1048576) (hy : ys.length ≤ 1048576) (hd : ds.length ≤ 1048576)
  (g1 : ∀ y ∈ flatT xs, y.oneCell' = true) (g2 : ∀ y ∈ flatT ys, y.oneCell' = true) :
  Calls Try.prog 63 #[.agg #[.slice (some ⟨b1, o1, none⟩) xs.length q1, .slice (some ⟨b2, o2, none⟩) cs.length q2], .int .i64 (i : Nat), .agg #[.slice a5 ys.length q5, .slice a6 ds.length q6]] w fun e w' => ∃ v1 v2, e = .returned (.agg #[v1, v2]) ∧
   OwnE w' w.heap.size 54 5 v1 (xs.take i ++ ys ++ xs.drop (i + 1)).length (flatT (xs.take i ++ ys ++ xs.drop (i + 1))) ∧ OwnE w' w.heap.size 3 1 v2 (cs.take i ++ ds ++ cs.drop i).length (flatI (cs.take i ++ ds ++ cs.drop i)) ∧ Below w.heap.size w w' := by
 obtain ⟨i0, hi0, hz0, hz1, hz2⟩ := info_parts Try.info54
 obtain ⟨j0, hj0, hy0, hy1, hy2⟩ := info_parts Try.info3
 have hq1 : xs.length ≤ q1 ∧ q1 ≤ maxLen := by obtain ⟨_, _, _, _, h, h', h'', _⟩ := h1; simp at h; omega
 have hq2 : cs.length ≤ q2 ∧ q2 ≤ maxLen := by obtain ⟨_, _, _, _, h, h', h'', _⟩ := h2; simp at h; omega
 unfold maxLen at hq1 hq2
 have B0 : Hid (Below w.heap.size w (((w.alloc (.cells #[.slice (some ⟨b1, o1, none⟩) xs.length q1, .slice (some ⟨b2, o2, none⟩) cs.length q2] 95)).alloc (.cells #[.slice a5 ys.length q5, .slice a6 ds.length q6] 95)).alloc (.cells #[.slice none 0 0, .slice none 0 0] 95))) := al3 _ _ _ _
 have X1 : Hid (BoxM (((w.alloc (.cells #[.slice (some ⟨b1, o1, none⟩) xs.length q1, .slice (some ⟨b2, o2, none⟩) cs.length q2] 95)).alloc (.cells #[.slice a5 ys.length q5, .slice a6 ds.length q6] 95)).alloc (.cells #[.slice none 0 0, .slice none 0 0] 95)) w.heap.size #[.slice (some ⟨b1, o1, none⟩) xs.length q1, .slice (some ⟨b2, o2, none⟩) cs.length q2]) := ((BoxM.start w _).alloc _).alloc _
 have X2 : Hid (BoxM (((w.alloc (.cells #[.slice (some ⟨b1, o1, none⟩) xs.length q1, .slice (some ⟨b2, o2, none⟩) cs.length q2] 95)).alloc (.cells #[.slice a5 ys.length q5, .slice a6 ds.length q6] 95)).alloc (.cells #[.slice none 0 0, .slice none 0 0] 95)) (w.heap.size + 1) #[.slice a5 ys.length q5, .slice a6 ds.length q6]) := by
  have := (BoxM.start (w.alloc (.cells #[.slice (some ⟨b1, o1, none⟩) xs.length q1, .slice (some ⟨b2, o2, none⟩) cs.length q2] 95)) #[.slice a5 ys.length q5, .slice a6 ds.length q6]).alloc (.cells #[.slice none 0 0, .slice none 0 0] 95)
  rw [World.size_alloc] at this
  exact this
 have X3 : Hid (BoxM (((w.alloc (.cells #[.slice (some ⟨b1, o1, none⟩) xs.length q1, .slice (some ⟨b2, o2, none⟩) cs.length q2] 95)).alloc (.cells #[.slice a5 ys.length q5, .slice a6 ds.length q6] 95)).alloc (.cells #[.slice none 0 0, .slice none 0 0] 95)) (w.heap.size + 1 + 1) #[.slice none 0 0, .slice none 0 0]) := by
  have := BoxM.start ((w.alloc (.cells #[.slice (some ⟨b1, o1, none⟩) xs.length q1, .slice (some ⟨b2, o2, none⟩) cs.length q2] 95)).alloc (.cells #[.slice a5 ys.length q5, .slice a6 ds.length q6] 95)) #[.slice none 0 0, .slice none 0 0]
  rw [World.size_alloc, World.size_alloc] at this
  exact this
 have RT : Hid (∀ w', Below w.heap.size w w' → Row w' (.slice (some ⟨b1, o1, none⟩) i q1) i (flatT (xs.take i))) := fun w' hb => (h1.below hb).headT i (by omega) (by omega)
 have RC : Hid (∀ w', Below w.heap.size w w' → Row w' (.slice (some ⟨b2, o2, none⟩) i q2) i (flatI (cs.take i))) := fun w' hb => (h2.below hb).headI i (by omega) (by omega)
 have RT5 : Hid (∀ w', Below w.heap.size w w' → Row w' (.slice a5 ys.length q5) ys.length (flatT ys)) := fun w' hb => h5.below hb
 have RC6 : Hid (∀ w', Below w.heap.size w w' → Row w' (.slice a6 ds.length q6) ds.length (flatI ds)) := fun w' hb => h6.below hb
 have RT3 : Hid (∀ w', Below w.heap.size w w' → Row w' (.slice (if q1 = i + 1 then some ⟨b1, o1, none⟩ else some ⟨b1, o1 + (i + 1) * 5, none⟩) (xs.length - (i + 1)) (q1 - (i + 1))) (xs.length - (i + 1)) (flatT (xs.drop (i + 1)))) := fun w' hb => by
  have := (h1.below hb).sub (size := 5) (i + 1) xs.length (by omega) (Nat.le_refl _) (by omega)
  rw [flatT_drop, List.take_of_length_le (by rw [flatT_length]; simp)] at this
  simpa [Go.WideShapes.add_plain] using this
 have RC3 : Hid (∀ w', Below w.heap.size w w' → Row w' (.slice (if q2 = i then some ⟨b2, o2, none⟩ else some ⟨b2, o2 + i, none⟩) (cs.length - i) (q2 - i)) (cs.length - i) (flatI (cs.drop i))) := fun w' hb => by
  have := (h2.below hb).sub (size := 1) i cs.length (by omega) (Nat.le_refl _) (by omega)
  rw [flatI_drop, List.take_of_length_le (by rw [flatI_length]; simp)] at this
  simpa [Go.WideShapes.add_plain] using this
 have LT : Hid ((flatT (xs.take i)).length = i * 5) := by show _ = _; rw [flatT_length, List.length_take, Nat.min_eq_left (by omega)]
 have LC : Hid ((flatI (cs.take i)).length = i * 1) := by show _ = _; rw [flatI_length, List.length_take, Nat.min_eq_left (by omega)]; omega
 have LT5 : Hid ((flatT ys).length = ys.length * 5) := flatT_length _
 have LC6 : Hid ((flatI ds).length = ds.length * 1) := by show _ = _; rw [flatI_length]; omega
 have LT3 : Hid ((flatT (xs.drop (i + 1))).length = (xs.length - (i + 1)) * 5) := by show _ = _; rw [flatT_length, List.length_drop]
 have LC3 : Hid ((flatI (cs.drop i)).length = (cs.length - i) * 1) := by show _ = _; rw [flatI_length, List.length_drop]; omega
 have OT : Hid _ := one_take g1 i
 have OT5 : Hid _ := g2
 have OT3 : Hid _ := one_drop g1 (i + 1)
 have OC : Hid _ := flatI_one (cs.take i)
 have OC6 : Hid _ := flatI_one ds
 have OC3 : Hid _ := flatI_one (cs.drop i)
 have ZT : Hid (0 + i ≤ maxLen ∧ (0 + i) * 104 ≤ 140737488355328) := ⟨by unfold maxLen; omega, by omega⟩
 have ZC : Hid (0 + i ≤ maxLen ∧ (0 + i) * 8 ≤ 140737488355328) := ⟨by unfold maxLen; omega, by omega⟩
 have ZT5 : Hid (0 + i + ys.length ≤ maxLen ∧ (0 + i + ys.length) * 104 ≤ 140737488355328) := ⟨by unfold maxLen; omega, by omega⟩
 have ZC6 : Hid (0 + i + ds.length ≤ maxLen ∧ (0 + i + ds.length) * 8 ≤ 140737488355328) := ⟨by unfold maxLen; omega, by omega⟩
 have ZT3 : Hid (0 + i + ys.length + (xs.length - (i + 1)) ≤ maxLen ∧ (0 + i + ys.length + (xs.length - (i + 1))) * 104 ≤ 140737488355328) := ⟨by unfold maxLen; omega, by omega⟩
 have ZC3 : Hid (0 + i + ds.length + (cs.length - i) ≤ maxLen ∧ (0 + i + ds.length + (cs.length - i)) * 8 ≤ 140737488355328) := ⟨by unfold maxLen; omega, by omega⟩
 have FT : Hid ((0 + i + ys.length + (xs.length - (i + 1)) = (xs.take i ++ ys ++ xs.drop (i + 1)).length) ∧ [] ++ flatT (xs.take i) ++ flatT ys ++ flatT (xs.drop (i + 1)) = flatT (xs.take i ++ ys ++ xs.drop (i + 1))) := ⟨by simp; omega, by simp [flatT_append]⟩
 have FC : Hid ((0 + i + ds.length + (cs.length - i) = (cs.take i ++ ds ++ cs.drop i).length) ∧ [] ++ flatI (cs.take i) ++ flatI ds ++ flatI (cs.drop i) = flatI (cs.take i ++ ds ++ cs.drop i)) := ⟨by simp; omega, by simp [flatI_append]⟩
 have e1 : (0 : Int) ≤ (i : Int) := by omega
 have e2 : (i : Int) ≤ (q1 : Int) := by omega
 have e3 : (i : Int) ≤ (q2 : Int) := by omega
 have e4 : (i : Int) + 1 ≤ (xs.length : Int) := by omega
 have e5 : (i : Int) ≤ (cs.length : Int) := by omega
 have e6 : ((i : Int) + 1).toNat = i + 1 := by omega
 have e7 : IntKind.i64.wrap ((i : Int) + 1) = (i : Int) + 1 := by rw [IntKind.wrap_i64]; omega
 have e8 : (0 : Int) ≤ (i : Int) + 1 := by omega
 clear h1 h2 h5 h6 g1 g2
 generalize (xs.take i ++ ys ++ xs.drop (i + 1)) = XX at *
 generalize (cs.take i ++ ds ++ cs.drop i) = CC at *
 generalize flatT (xs.take i) = f1 at *
 generalize flatI (cs.take i) = f2 at *
 generalize flatT (xs.drop (i + 1)) = f3 at *
 generalize flatI (cs.drop i) = f4 at *
 generalize flatT ys = f5 at *
 generalize flatI ds = f6 at *
 generalize xs.length = n1 at *
 generalize cs.length = n2 at *
 generalize ys.length = n5 at *
 generalize ds.length = n6 at *
 go_enter Try.func63, Try.ntmps63
 go_wp2_with fail
 refine wp_gen (fun W => BoxM W w.heap.size #[.slice (some ⟨b1, o1, none⟩) n1 q1, .slice (some ⟨b2, o2, none⟩) n2 q2] ∧ BoxM W (w.heap.size + 1) #[.slice a5 n5 q5, .slice a6 n6 q6] ∧ BoxM W (w.heap.size + 1 + 1) #[.slice none 0 0, .slice none 0 0] ∧ w.heap.size + 1 + 1 < W.heap.size ∧ Below w.heap.size w W) ⟨X1.out, X2.out, X3.out, by simp, B0.out⟩ ?_
 rintro W ⟨S1, S2, S3, hsz, BW⟩
 clear X1 X2 X3 B0
 obtain ⟨c0, c1⟩ := S1.two
 obtain ⟨c2, c3⟩ := S2.two
 have BA : Hid (∀ w', Below W.heap.size W w' → Below w.heap.size w w') := fun w' hb => BW.trans (hb.mono BW.size)
 have KEEP : Hid (∀ w', Below W.heap.size W w' → w'.cell? ⟨w.heap.size, 0, none⟩ = some (.slice (some ⟨b1, o1, none⟩) n1 q1) ∧ w'.cell? ⟨w.heap.size, 1, none⟩ = some (.slice (some ⟨b2, o2, none⟩) n2 q2) ∧ w'.cell? ⟨w.heap.size + 1, 0, none⟩ = some (.slice a5 n5 q5) ∧ w'.cell? ⟨w.heap.size + 1, 1, none⟩ = some (.slice a6 n6 q6) ∧ Hid (Below W.heap.size W w')) := fun w' hb => ⟨cell_lowB hb (cell_lt c0) c0, cell_lowB hb (cell_lt c1) c1, cell_lowB hb (cell_lt c2) c2, cell_lowB hb (cell_lt c3) c3, hb⟩
 have KB : Hid (∀ (u : World), (u.cell? ⟨w.heap.size, 0, none⟩ = some (.slice (some ⟨b1, o1, none⟩) n1 q1) ∧ u.cell? ⟨w.heap.size, 1, none⟩ = some (.slice (some ⟨b2, o2, none⟩) n2 q2) ∧ u.cell? ⟨w.heap.size + 1, 0, none⟩ = some (.slice a5 n5 q5) ∧ u.cell? ⟨w.heap.size + 1, 1, none⟩ = some (.slice a6 n6 q6) ∧ Hid (Below W.heap.size W u)) → Below W.heap.size W u) := fun u h => h.2.2.2.2.out
 have KA : Hid (∀ (u : World) (o : Obj), (u.cell? ⟨w.heap.size, 0, none⟩ = some (.slice (some ⟨b1, o1, none⟩) n1 q1) ∧ u.cell? ⟨w.heap.size, 1, none⟩ = some (.slice (some ⟨b2, o2, none⟩) n2 q2) ∧ u.cell? ⟨w.heap.size + 1, 0, none⟩ = some (.slice a5 n5 q5) ∧ u.cell? ⟨w.heap.size + 1, 1, none⟩ = some (.slice a6 n6 q6) ∧ Hid (Below W.heap.size W u)) → Below W.heap.size W (u.alloc o)) := fun u o h => (KB.out u h).alloc (KB.out u h).size o
 have KD : Hid (∀ (u : World) (o : Obj), (u.drew.cell? ⟨w.heap.size, 0, none⟩ = some (.slice (some ⟨b1, o1, none⟩) n1 q1) ∧ u.drew.cell? ⟨w.heap.size, 1, none⟩ = some (.slice (some ⟨b2, o2, none⟩) n2 q2) ∧ u.drew.cell? ⟨w.heap.size + 1, 0, none⟩ = some (.slice a5 n5 q5) ∧ u.drew.cell? ⟨w.heap.size + 1, 1, none⟩ = some (.slice a6 n6 q6) ∧ Hid (Below W.heap.size W u.drew)) → Below W.heap.size W (u.alloc o).drew) := fun u o h => (KB.out u.drew h).alloc (KB.out u.drew h).size o
 have KS : Hid (∀ (u : World) (L : Nat) (t0 t1 : Value), W.heap.size ≤ L → (u.cell? ⟨w.heap.size, 0, none⟩ = some (.slice (some ⟨b1, o1, none⟩) n1 q1) ∧ u.cell? ⟨w.heap.size, 1, none⟩ = some (.slice (some ⟨b2, o2, none⟩) n2 q2) ∧ u.cell? ⟨w.heap.size + 1, 0, none⟩ = some (.slice a5 n5 q5) ∧ u.cell? ⟨w.heap.size + 1, 1, none⟩ = some (.slice a6 n6 q6) ∧ Hid (Below W.heap.size W u)) → Below W.heap.size W ((u.setCell ⟨L, 0, none⟩ t0).setCell ⟨L, 1, none⟩ t1)) := fun u L t0 t1 hL h => ((KB.out u h).setCell (p := ⟨L, 0, none⟩) hL _).setCell (p := ⟨L, 1, none⟩) hL _
 have SW := KEEP.out W.drew (Below.refl _ _).drew
 have TW := KEEP.out W (Below.refl _ _)
 have SB3 : Hid (BoxM W (w.heap.size + 1 + 1) #[.slice none 0 0, .slice none 0 0]) := S3
 have ZS : Hid (w.heap.size + 1 + 1 < W.heap.size) := hsz
 clear c0 c1 c2 c3 S1 S2 S3 hsz
 go_cut [7] (fun s7 wx => ∃ (L : Nat) (a7 a8 : Option Addr) (q7 q8 : Nat), s7 = .pointer (some ⟨L, 0, none⟩) ∧ Hid (BoxM wx L #[.slice a7 i q7, .slice a8 i q8]) ∧ Hid (OwnE wx W.heap.size 54 5 (.slice a7 i q7) (0 + i) ([] ++ f1)) ∧ Hid (OwnE wx W.heap.size 3 1 (.slice a8 i q8) (0 + i) ([] ++ f2)) ∧ Hid (∀ g, wrB (.slice a7 i q7) g → ¬ wrB (.slice a8 i q8) g) ∧ Hid (W.heap.size ≤ L) ∧ Hid (Below W.heap.size W wx))
 case first =>
  go_region_held3 (fun w' => w'.cell? ⟨w.heap.size, 0, none⟩ = some (.slice (some ⟨b1, o1, none⟩) n1 q1) ∧ w'.cell? ⟨w.heap.size, 1, none⟩ = some (.slice (some ⟨b2, o2, none⟩) n2 q2) ∧ w'.cell? ⟨w.heap.size + 1, 0, none⟩ = some (.slice a5 n5 q5) ∧ w'.cell? ⟨w.heap.size + 1, 1, none⟩ = some (.slice a6 n6 q6) ∧ Hid (Below W.heap.size W w')) (first | (with_reducible assumption) | (with_reducible (exact KEEP.out _ (KA.out _ _ (by assumption)))) | (with_reducible (exact KEEP.out _ (KD.out _ _ (by assumption)))) | (with_reducible (exact KEEP.out _ (KS.out _ _ _ _ (by omega) (by assumption))))) (first
   | (refine step_appE _ rfl _ _ 51 rfl W.heap.size 54 i0 _ 5 104 Try.underlying51 hi0 hz0 hz1 hz2 rfl (by decide) _ 0 [] rfl (OwnE.zero _ _ _ _ _) (.slice (some ⟨b1, o1, none⟩) i q1) i f1 rfl (RT.out _ (BA.out _ (KB.out _ (by assumption)))) LT.out OT.out ZT.out.1 ZT.out.2 (KB.out _ (by assumption)).size ?_; intro v1 w1 A1; have S4 := KEEP.out w1 ((KB.out _ (by assumption)).trans A1.2.2.1); obtain ⟨a7, q7, hv1⟩ := A1.1.slice; rw [Nat.zero_add] at hv1; subst hv1; have hs1 : W.heap.size ≤ w1.heap.size := (KB.out _ S4).size; have AA1 : Hid _ := A1; (try (have PL : Hid (BoxM w1 _ #[.slice none 0 0, .slice none 0 0]) := BoxM.app (by first | exact (BoxM.start _ _).drew | exact ((BoxM.start _ _).alloc _).drew | exact (((BoxM.start _ _).alloc _).alloc _).drew) A1; (try simp only [World.size_alloc] at PL))); clear A1)
   | (refine step_appE _ rfl _ _ 50 rfl W.heap.size 3 j0 _ 1 8 Try.underlying50 hj0 hy0 hy1 hy2 rfl (by decide) _ 0 [] rfl (OwnE.zero _ _ _ _ _) (.slice (some ⟨b2, o2, none⟩) i q2) i f2 rfl (RC.out _ (BA.out _ (KB.out _ (by assumption)))) LC.out OC.out ZC.out.1 ZC.out.2 (KB.out _ (by assumption)).size ?_; intro v2 w2 A2; have S5 := KEEP.out w2 ((KB.out _ (by assumption)).trans A2.2.2.1); obtain ⟨a8, q8, hv2⟩ := A2.1.slice; rw [Nat.zero_add] at hv2; subst hv2; have R1 : Hid _ := next_row AA1.out.1 (by first | exact Below.refl _ _ | exact al1 _ _ | exact al2 _ _ _) A2; have hs2 : W.heap.size ≤ w2.heap.size := (KB.out _ S5).size; have R2 : Hid _ := A2.1; (try (have PM : Hid (BoxM w2 _ #[.slice none 0 0, .slice none 0 0]) := BoxM.app (by first | exact PL.out | exact PL.out.alloc _ | exact (PL.out.alloc _).alloc _ | exact BoxM.start _ _ | exact (BoxM.start _ _).alloc _) A2; (try simp only [World.size_alloc] at PM); obtain ⟨m0, m1⟩ := PM.out.two; obtain ⟨k0, k1⟩ := PM.out.free)); clear A2))
  all_goals (
   clear SW TW S4
   go_wp2_with fail
   go_meet
   case rel => first
    | exact ⟨w2.heap.size, a7, a8, q7, q8, rfl, BoxM.start w2 _, R1.out.1.alloc _, OwnE.alloc R2.out _, R1.out.2, hs2, (KB.out _ S5).alloc hs2 _⟩
    | exact ⟨_, a7, a8, q7, q8, rfl, PM.out.set2 _ _, R1.out.1.set2 (by decide) PM.out _ _, OwnE.set2 R2.out (by decide) PM.out _ _, R1.out.2, (by show _ ≤ _; omega), KS.out _ _ _ _ (by omega) S5⟩)
 case rest =>
  obtain ⟨L, a7, a8, q7, q8, rfl, BL, T1, C1, D1, hL, BN⟩ := hcut
  clear RT RC LT LC OT OC ZT ZC
  have K1 : Hid (∀ (u : World) (j : Nat) (t : Value), (u.cell? ⟨w.heap.size, 0, none⟩ = some (.slice (some ⟨b1, o1, none⟩) n1 q1) ∧ u.cell? ⟨w.heap.size, 1, none⟩ = some (.slice (some ⟨b2, o2, none⟩) n2 q2) ∧ u.cell? ⟨w.heap.size + 1, 0, none⟩ = some (.slice a5 n5 q5) ∧ u.cell? ⟨w.heap.size + 1, 1, none⟩ = some (.slice a6 n6 q6) ∧ Hid (Below W.heap.size W u)) → Below W.heap.size W (u.setCell ⟨L, j, none⟩ t)) := fun u j t h => (KB.out u h).setCell (p := ⟨L, j, none⟩) hL.out _
  clear KS KA KD SW TW
  obtain ⟨l0, l1⟩ := BL.out.two
  obtain ⟨x0, x1, x2, x3, _⟩ := KEEP.out wc BN.out
  have hS : wc.drew.cell? ⟨w.heap.size, 0, none⟩ = some (.slice (some ⟨b1, o1, none⟩) n1 q1) ∧ wc.drew.cell? ⟨w.heap.size + 1, 0, none⟩ = some (.slice a5 n5 q5) ∧ wc.drew.cell? ⟨L, 0, none⟩ = some (.slice a7 i q7) := ⟨x0, x2, l0⟩
  go_wp2_with fail
  refine wp_region_last (fun w' => w'.cell? ⟨w.heap.size, 0, none⟩ = some (.slice (some ⟨b1, o1, none⟩) n1 q1) ∧ w'.cell? ⟨w.heap.size + 1, 0, none⟩ = some (.slice a5 n5 q5) ∧ w'.cell? ⟨L, 0, none⟩ = some (.slice a7 i q7)) [_, _, _, _, _, _, _, _, _, _, _, _] _ rfl (by kernel_rfl) (by kernel_rfl) ?_
  refine tq 0 rfl (by kernel_rfl) (fun _ _ _ h => h) (by assumption) rfl (by intro w h; go_simp <;> with_reducible rfl) ?_
  try simp only [Act.put, sA, sB, sC]
  refine tq 1 rfl (by kernel_rfl) (fun _ _ _ h => h) (by assumption) rfl (by intro w h; go_simp <;> with_reducible rfl) ?_
  try simp only [Act.put, sA, sB, sC]
  refine tq 2 rfl (by kernel_rfl) (fun _ _ _ h => h) (by assumption) rfl (by intro w h; go_simp <;> with_reducible rfl) ?_
  try simp only [Act.put, sA, sB, sC]
  refine tq 3 rfl (by kernel_rfl) (fun _ _ _ h => h) (by assumption) rfl (by intro w h; go_simp <;> with_reducible rfl) ?_
  try simp only [Act.put, sA, sB, sC]
  refine tq 5 rfl (by kernel_rfl) (fun _ _ _ h => h) (by assumption) rfl (by intro w h; go_simp <;> with_reducible rfl) ?_
  try simp only [Act.put, sA, sB, sC]
  refine tq 6 rfl (by kernel_rfl) (fun _ _ _ h => h) (by assumption) rfl (by intro w h; go_simp <;> with_reducible rfl) ?_
  try simp only [Act.put, sA, sB, sC]
  refine tq 7 rfl (by kernel_rfl) (fun _ _ _ h => h) (by assumption) rfl (by intro w h; go_simp <;> with_reducible rfl) ?_
  try simp only [Act.put, sA, sB, sC]
  refine tq 8 rfl (by kernel_rfl) (fun _ _ _ h => h) (by assumption) rfl (by intro w h; go_simp <;> with_reducible rfl) ?_
  try simp only [Act.put, sA, sB, sC]
  refine tq 9 rfl (by kernel_rfl) (fun _ _ _ h => h) (by assumption) rfl (by intro w h; go_simp <;> with_reducible rfl) ?_
  try simp only [Act.put, sA, sB, sC]
  refine rq 4 (by kernel_rfl) rfl (fun K hK => ?_)
  refine step_appE _ rfl _ _ 51 rfl W.heap.size 54 i0 _ 5 104 Try.underlying51 hi0 hz0 hz1 hz2 rfl (by decide) (.slice a7 i q7) (0 + i) ([] ++ f1) rfl T1.out.drew (.slice a5 n5 q5) n5 f5 rfl (RT5.out _ (BA.out _ BN.out.drew)) LT5.out OT5.out ZT5.out.1 ZT5.out.2 BN.out.size ?_
  intro v3 w3 A3
  have B3 : Hid (Below W.heap.size W w3) := BN.out.drew.trans A3.2.2.1
  obtain ⟨a9, q9, hv3⟩ := A3.1.slice
  subst hv3
  have T3 : Hid (OwnE w3 W.heap.size 54 5 (.slice a9 (0 + i + n5) q9) (0 + i + n5) ([] ++ f1 ++ f5)) := A3.1
  have BL3 : Hid (BoxM w3 L #[.slice a7 i q7, .slice a8 i q8]) := BL.out.drew.chg A3.2.1 (T1.out.ne_box (by decide) BL.out)
  have C3 : Hid (OwnE w3 W.heap.size 3 1 (.slice a8 i q8) (0 + i) ([] ++ f2)) := C1.out.drew.chg A3.2.1 (fun g hg hg' => D1.out g hg' hg)
  have D3 : Hid (∀ g, wrB (.slice a9 (0 + i + n5) q9) g → ¬ wrB (.slice a8 i q8) g) := (fun g h h8 => (A3.2.2.2 g h).elim (fun h => D1.out g h h8) (fun h => Nat.lt_irrefl _ (Nat.lt_of_lt_of_le (C1.out.lt g h8).2 h)))
  have hS3 := KEEP.out w3 B3.out
  have l3 := BL3.out.two
  clear A3
  refine hK.out _ _ ⟨hS3.1, hS3.2.2.1, l3.1⟩ (fun hH => ?_)
  clear hK K
  try simp only [Act.put, sA, sB, sC]
  refine rq 10 (by kernel_rfl) rfl (fun K hK => ?_)
  refine step_appE _ rfl _ _ 51 rfl W.heap.size 54 i0 _ 5 104 Try.underlying51 hi0 hz0 hz1 hz2 rfl (by decide) (.slice a9 (0 + i + n5) q9) (0 + i + n5) ([] ++ f1 ++ f5) rfl T3.out _ (n1 - (i + 1)) f3 rfl (RT3.out _ (BA.out _ B3.out)) LT3.out OT3.out ZT3.out.1 ZT3.out.2 B3.out.size ?_
  intro v4 w4 A4
  have B4 := hid (B3.out.trans A4.2.2.1)
  obtain ⟨a10, q10, hv4⟩ := A4.1.slice
  subst hv4
  have T4 := hid (A4.1)
  have BL4 := hid (BL3.out.chg A4.2.1 (T3.out.ne_box (by decide) BL3.out))
  have C4 := hid (C3.out.chg A4.2.1 (fun g hg hg' => D3.out g hg' hg))
  have D4 : Hid (∀ g, wrB (.slice a10 (0 + i + n5 + (n1 - (i + 1))) q10) g → ¬ wrB (.slice a8 i q8) g) := (fun g h h8 => (A4.2.2.2 g h).elim (fun h => D3.out g h h8) (fun h => Nat.lt_irrefl _ (Nat.lt_of_lt_of_le (C3.out.lt g h8).2 h)))
  have hS4 := KEEP.out w4 B4.out
  obtain ⟨m0, m1⟩ := BL4.out.two
  obtain ⟨k0, k1⟩ := BL4.out.free
  clear A4 hS hS3 hH
  refine hK.out _ _ ⟨hS4.1, hS4.2.2.1, m0⟩ (fun hH => ?_)
  clear hK K
  try simp only [Act.put, sA, sB, sC]
  refine tq 11 rfl (by kernel_rfl) (fun _ _ _ h => h) (by assumption) rfl (by intro w h; go_simp <;> with_reducible rfl) ?_
  try simp only [Act.put, sA, sB, sC]
  refine wpAnyH_done (by kernel_rfl) ?_ _
  show Oper.wp _ _ _ _ _ _
  go_simp
  clear T1 C1 D1 BL BN RT5 RT3 LT5 LT3 OT5 OT3 ZT5 ZT3 T3 BL3 C3 D3 l3 l0 l1 x0 x1 x2 x3 hH m0 m1 k0 k1 B3
  have FIN : Hid (BoxM (w4.setCell ⟨L, 0, none⟩ (.slice a10 (i + n5 + (n1 - (i + 1))) q10)) L #[.slice a10 (i + n5 + (n1 - (i + 1))) q10, .slice a8 i q8] ∧ OwnE (w4.setCell ⟨L, 0, none⟩ (.slice a10 (i + n5 + (n1 - (i + 1))) q10)) W.heap.size 54 5 (.slice a10 (i + n5 + (n1 - (i + 1))) q10) (0 + i + n5 + (n1 - (i + 1))) ([] ++ f1 ++ f5 ++ f3) ∧ OwnE (w4.setCell ⟨L, 0, none⟩ (.slice a10 (i + n5 + (n1 - (i + 1))) q10)) W.heap.size 3 1 (.slice a8 i q8) (0 + i) ([] ++ f2) ∧ Below W.heap.size W (w4.setCell ⟨L, 0, none⟩ (.slice a10 (i + n5 + (n1 - (i + 1))) q10))) := by
   have T5 := T4.out
   rw [Nat.zero_add] at T5
   exact ⟨BL4.out.set0 _, by rw [Nat.zero_add]; exact OwnE.set1 T5 (by decide) BL4.out _ _, OwnE.set1 C4.out (by decide) BL4.out _ _, B4.out.setCell (p := ⟨L, 0, none⟩) hL.out _⟩
  have D5 : Hid (∀ g, wrB (.slice a10 (i + n5 + (n1 - (i + 1))) q10) g → ¬ wrB (.slice a8 i q8) g) := by
   have := D4.out
   rw [Nat.zero_add] at this
   exact this
  clear T4 C4 D4 BL4 B4 hS4
  generalize (w4.setCell ⟨L, 0, none⟩ (.slice a10 (i + n5 + (n1 - (i + 1))) q10)) = V at *
  generalize i + n5 + (n1 - (i + 1)) = n10 at *
  generalize (if q1 = i + 1 then (some ⟨b1, o1, none⟩ : Option Addr) else some ⟨b1, o1 + (i + 1) * 5, none⟩) = adr
  have BV := hid (FIN.out.1)
  have TV := hid (FIN.out.2.1)
  have CV := hid (FIN.out.2.2.1)
  have BB := hid (FIN.out.2.2.2)
  clear FIN
  obtain ⟨l0, l1⟩ := BV.out.two
  obtain ⟨x0, x1, x2, x3, _⟩ := KEEP.out V BB.out
  have hS : V.drew.cell? ⟨w.heap.size, 1, none⟩ = some (.slice (some ⟨b2, o2, none⟩) n2 q2) ∧ V.drew.cell? ⟨w.heap.size + 1, 1, none⟩ = some (.slice a6 n6 q6) ∧ V.drew.cell? ⟨L, 1, none⟩ = some (.slice a8 i q8) := ⟨x1, x3, l1⟩
  go_wp2_with fail
  refine wp_region_last (fun w' => w'.cell? ⟨w.heap.size, 1, none⟩ = some (.slice (some ⟨b2, o2, none⟩) n2 q2) ∧ w'.cell? ⟨w.heap.size + 1, 1, none⟩ = some (.slice a6 n6 q6) ∧ w'.cell? ⟨L, 1, none⟩ = some (.slice a8 i q8)) [_, _, _, _, _, _, _, _, _, _, _] _ rfl (by kernel_rfl) (by kernel_rfl) ?_
  refine tq 0 rfl (by kernel_rfl) (fun _ _ _ h => h) (by assumption) rfl (by intro w h; go_simp <;> with_reducible rfl) ?_
  try simp only [Act.put, sA, sB, sC]
  refine tq 1 rfl (by kernel_rfl) (fun _ _ _ h => h) (by assumption) rfl (by intro w h; go_simp <;> with_reducible rfl) ?_
  try simp only [Act.put, sA, sB, sC]
  refine tq 2 rfl (by kernel_rfl) (fun _ _ _ h => h) (by assumption) rfl (by intro w h; go_simp <;> with_reducible rfl) ?_
  try simp only [Act.put, sA, sB, sC]
  refine tq 3 rfl (by kernel_rfl) (fun _ _ _ h => h) (by assumption) rfl (by intro w h; go_simp <;> with_reducible rfl) ?_
  try simp only [Act.put, sA, sB, sC]
  refine tq 5 rfl (by kernel_rfl) (fun _ _ _ h => h) (by assumption) rfl (by intro w h; go_simp <;> with_reducible rfl) ?_
  try simp only [Act.put, sA, sB, sC]
  refine tq 6 rfl (by kernel_rfl) (fun _ _ _ h => h) (by assumption) rfl (by intro w h; go_simp <;> with_reducible rfl) ?_
  try simp only [Act.put, sA, sB, sC]
  refine tq 7 rfl (by kernel_rfl) (fun _ _ _ h => h) (by assumption) rfl (by intro w h; go_simp <;> with_reducible rfl) ?_
  try simp only [Act.put, sA, sB, sC]
  refine tq 8 rfl (by kernel_rfl) (fun _ _ _ h => h) (by assumption) rfl (by intro w h; go_simp <;> with_reducible rfl) ?_
  try simp only [Act.put, sA, sB, sC]
  refine rq 4 (by kernel_rfl) rfl (fun K hK => ?_)
  refine step_appE _ rfl _ _ 50 rfl W.heap.size 3 j0 _ 1 8 Try.underlying50 hj0 hy0 hy1 hy2 rfl (by decide) (.slice a8 i q8) (0 + i) ([] ++ f2) rfl CV.out.drew (.slice a6 n6 q6) n6 f6 rfl (RC6.out _ (BA.out _ BB.out.drew)) LC6.out OC6.out ZC6.out.1 ZC6.out.2 BB.out.size ?_
  intro v6 w6 A6
  have B6 := hid (BB.out.drew.trans A6.2.2.1)
  obtain ⟨a11, q11, hv6⟩ := A6.1.slice
  subst hv6
  have C6 := hid (A6.1)
  have BL6 := hid (BV.out.drew.chg A6.2.1 (CV.out.ne_box (by decide) BV.out))
  have T6 := hid (TV.out.drew.chg A6.2.1 (fun g hg hg' => D5.out g hg hg'))
  have D6 : Hid (∀ g, wrB (.slice a10 n10 q10) g → ¬ wrB (.slice a11 (0 + i + n6) q11) g) := (fun g h8 h => (A6.2.2.2 g h).elim (fun h => D5.out g h8 h) (fun h => Nat.lt_irrefl _ (Nat.lt_of_lt_of_le (TV.out.lt g h8).2 h)))
  have hS6 := KEEP.out w6 B6.out
  have l6 := BL6.out.two
  clear A6
  refine hK.out _ _ ⟨hS6.2.1, hS6.2.2.2.1, l6.2⟩ (fun hH => ?_)
  clear hK K
  try simp only [Act.put, sA, sB, sC]
  refine rq 9 (by kernel_rfl) rfl (fun K hK => ?_)
  refine step_appE _ rfl _ _ 50 rfl W.heap.size 3 j0 _ 1 8 Try.underlying50 hj0 hy0 hy1 hy2 rfl (by decide) (.slice a11 (0 + i + n6) q11) (0 + i + n6) ([] ++ f2 ++ f6) rfl C6.out _ (n2 - i) f4 rfl (RC3.out _ (BA.out _ B6.out)) LC3.out OC3.out ZC3.out.1 ZC3.out.2 B6.out.size ?_
  intro v7 w7 A7
  have B7 := hid (B6.out.trans A7.2.2.1)
  obtain ⟨a12, q12, hv7⟩ := A7.1.slice
  subst hv7
  have C7 := hid (A7.1)
  have BL7 := hid (BL6.out.chg A7.2.1 (C6.out.ne_box (by decide) BL6.out))
  have T7 := hid (T6.out.chg A7.2.1 (fun g hg hg' => D6.out g hg hg'))
  have hS7 := KEEP.out w7 B7.out
  obtain ⟨m0, m1⟩ := BL7.out.two
  obtain ⟨k0, k1⟩ := BL7.out.free
  clear A7 hS hS6 hH
  refine hK.out _ _ ⟨hS7.2.1, hS7.2.2.2.1, m1⟩ (fun hH => ?_)
  clear hK K
  try simp only [Act.put, sA, sB, sC]
  refine tq 10 rfl (by kernel_rfl) (fun _ _ _ h => h) (by assumption) rfl (by intro w h; go_simp <;> with_reducible rfl) ?_
  try simp only [Act.put, sA, sB, sC]
  refine wpAnyH_done (by kernel_rfl) ?_ _
  show Oper.wp _ _ _ _ _ _
  go_simp
  have FIN : Hid (BoxM (w7.setCell ⟨L, 1, none⟩ (.slice a12 (i + n6 + (n2 - i)) q12)) L #[.slice a10 n10 q10, .slice a12 (i + n6 + (n2 - i)) q12] ∧ OwnE (w7.setCell ⟨L, 1, none⟩ (.slice a12 (i + n6 + (n2 - i)) q12)) W.heap.size 54 5 (.slice a10 n10 q10) (0 + i + n5 + (n1 - (i + 1))) ([] ++ f1 ++ f5 ++ f3) ∧ OwnE (w7.setCell ⟨L, 1, none⟩ (.slice a12 (i + n6 + (n2 - i)) q12)) W.heap.size 3 1 (.slice a12 (i + n6 + (n2 - i)) q12) (0 + i + n6 + (n2 - i)) ([] ++ f2 ++ f6 ++ f4) ∧ Below W.heap.size W (w7.setCell ⟨L, 1, none⟩ (.slice a12 (i + n6 + (n2 - i)) q12))) := by
   have C8 := C7.out
   rw [Nat.zero_add] at C8
   exact ⟨BL7.out.set1 _, OwnE.set1 T7.out (by decide) BL7.out _ _, by rw [Nat.zero_add]; exact OwnE.set1 C8 (by decide) BL7.out _ _, B7.out.setCell (p := ⟨L, 1, none⟩) hL.out _⟩
  clear T7 C7 BL7 B7 hS7 C6 BL6 T6 D6 l6 l0 l1 x0 x1 x2 x3 hH m0 m1 k0 k1 B6 BV TV CV BB D5
  generalize (w7.setCell ⟨L, 1, none⟩ (.slice a12 (i + n6 + (n2 - i)) q12)) = U at *
  generalize i + n6 + (n2 - i) = n12 at *
  generalize (if q2 = i then (some ⟨b2, o2, none⟩ : Option Addr) else some ⟨b2, o2 + i, none⟩) = adr2
  obtain ⟨l0, l1⟩ := FIN.out.1.two
  have R3 : BoxM U (w.heap.size + 1 + 1) #[.slice none 0 0, .slice none 0 0] := SB3.out.step FIN.out.2.2.2 ZS.out
  obtain ⟨r0, r1⟩ := R3.two
  obtain ⟨r2, r3⟩ := R3.free
  have R4 : Hid _ := R3
  have TL := hid (FIN.out.2.1)
  have CL := hid (FIN.out.2.2.1)
  have BU := hid (FIN.out.2.2.2)
  clear FIN R3
  go_wp2
  refine bodyPost_ret (v := .agg #[.slice a10 n10 q10, .slice a12 n12 q12]) (by simp [results, Try.results63, go_sem, r0, r1]) rfl ⟨_, _, rfl, ?_, ?_, ?_⟩
  ·rw [← FT.out.1, ← FT.out.2]
   exact (OwnE.set2 TL.out (by decide) R4.out _ _).mono (Nat.le_trans (by omega) (Nat.le_of_lt ZS.out))
  ·rw [← FC.out.1, ← FC.out.2]
   exact (OwnE.set2 CL.out (by decide) R4.out _ _).mono (Nat.le_trans (by omega) (Nat.le_of_lt ZS.out))
  ·exact ((BA.out _ BU.out).setCell (p := ⟨w.heap.size + 1 + 1, 0, none⟩) (by show w.heap.size ≤ w.heap.size + 1 + 1; omega) _).setCell (p := ⟨w.heap.size + 1 + 1, 1, none⟩) (by show w.heap.size ≤ w.heap.size + 1 + 1; omega) _
end
end Go.Proofs.Ytekcnibohikmdaa
