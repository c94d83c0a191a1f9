/-
  The program's Do.
  Trees of messages as plain data, and what it is that a struct's value leads to one.
  What chapter 2 says of trees, as plain functions.
-/
import Derived.Test.YtekcnibohikmdaaOfWrites3
import Derived.Deep.DeepCutAuto
import Derived.Test.YtekcnibohikmdaaOfWrites2
namespace Go.Proofs.Ytekcnibohikmdaa
set_option maxRecDepth 100000
set_option maxHeartbeats 8000000
section
open Go.RowKit

theorem wA_bound {l : List Wr} (h : ∀ x ∈ l, -9223372036854775808 ≤ x.1 ∧ x.1 ≤ 9223372036854775807) {k : Nat} (hk : k < l.length) : -9223372036854775808 ≤ wA l k ∧ wA l k ≤ 9223372036854775807 := by
 have := h l[k] (by simp)
 simpa [wA, List.getD, hk] using this

theorem DiskOwn.ne {w : World} {base : Nat} {v : Value} {P : PgL} {S : SL} (h : DiskOwn w base v P S) {B : Nat} {c : Array Value} (hB : w.heap[B]? = some (.cells c 27)) {g : Nat} (hg : dBlk v g) : g ≠ B := by
 obtain ⟨vp, vs, rfl, h1, h2⟩ := h
 obtain ⟨vp', vs', e, hg⟩ := hg
 simp at e
 obtain ⟨rfl, rfl⟩ := e
 rintro rfl
 rcases hg with hg | hg
 ·obtain ⟨_, c1, e1⟩ := owns_lt h1 hg
  rw [e1] at hB; simp at hB
 ·obtain ⟨_, c1, e1⟩ := owns_lt h2 hg
  rw [e1] at hB; simp at hB

theorem own_ne {w : World} {base e size n : Nat} {v : Value} {xs : List Value} (h : w.ownsRow base e size v n xs) {B : Nat} {c : Array Value} {t : Nat} (hB : w.heap[B]? = some (.cells c t)) (ht : t ≠ e) {g : Nat} (hg : v.ownBlock = some g) : ¬ g = B := by
 rintro rfl
 obtain ⟨_, c1, e1⟩ := owns_lt h hg
 rw [e1] at hB
 simp at hB
 exact ht hB.2.symm
def Laid (w : World) (P : PgL) (S : SL) (s5 : Value) (wx : World) : Prop := ∃ (B : Nat) (v1 v2 : Value), s5 = .pointer (some ⟨B, 0, none⟩) ∧ wx.heap[B]? = some (.cells #[v1, v2] 27) ∧ wx.heap[w.heap.size + 1]? = some (.cells #[.slice none 0 0, .slice none 0 0] 27) ∧ w.heap.size + 1 < B ∧
   DiskOwn wx w.heap.size (.agg #[v1, v2]) P S ∧ Below w.heap.size w wx
theorem laid_new {w w2 : World} {A : Obj} {P : PgL} {S : SL} {v1 v2 : Value} (G : Gd w A (.cells #[.slice none 0 0, .slice none 0 0] 27) w2) (o1 : w2.ownsRow w.heap.size 9 1 v1 P.length (flatS P)) (o2 : w2.ownsRow w.heap.size 33 2 v2 S.length (flatP S)) :
  Laid w P S (.pointer (some ⟨w2.heap.size, 0, none⟩)) (w2.alloc (.cells #[v1, v2] 27)) :=
 ⟨w2.heap.size, v1, v2, rfl, heap_alloc_new _ _, (G.al _).2.2.2, G.2.1, ⟨v1, v2, rfl, owns_below o1 (bel_al (Below.refl _ _) _), owns_below o2 (bel_al (Below.refl _ _) _)⟩, (G.al _).1⟩
theorem laid_set {w w2 : World} {A : Obj} {P : PgL} {S : SL} {v1 v2 : Value} {B : Nat} (G : Gd w A (.cells #[.slice none 0 0, .slice none 0 0] 27) w2) (o1 : w2.ownsRow w.heap.size 9 1 v1 P.length (flatS P)) (o2 : w2.ownsRow w.heap.size 33 2 v2 S.length (flatP S))
  (hB : w2.heap[B]? = some (.cells #[.slice none 0 0, .slice none 0 0] 27)) (hlt : w.heap.size + 1 < B) :
  Laid w P S (.pointer (some ⟨B, 0, none⟩)) ((w2.setCell ⟨B, 0, none⟩ v1).setCell ⟨B, 1, none⟩ v2) := by
 have ch : Chg (fun g => g = B) w2 ((w2.setCell ⟨B, 0, none⟩ v1).setCell ⟨B, 1, none⟩ v2) := ((Chg.refl (fun g => g = B) _).setAt B 0 rfl v1).setAt B 1 rfl v2
 refine ⟨B, v1, v2, rfl, ?_, ?_, hlt, ⟨v1, v2, rfl, ?_, ?_⟩, ?_⟩
 ·exact heap_setCell_same _ B 1 _ _ v2 (heap_setCell_same w2 B 0 _ _ v1 hB)
 ·exact (ch.block _ G.2.1 (by omega)).trans G.2.2.2
 ·exact owns_chg o1 ch (fun g hg => own_ne o1 hB (by decide) hg)
 ·exact owns_chg o2 ch (fun g hg => own_ne o2 hB (by decide) hg)
 ·exact (G.1.setCell (p := ⟨B, 0, none⟩) (by show w.heap.size ≤ B; omega) v1).setCell (p := ⟨B, 1, none⟩) (by show w.heap.size ≤ B; omega) v2

theorem implDo_any (v : Value) (P : PgL) (S : SL) (vl : Value) (l : List Wr) (w : World) (hd : DiskRow w v P S) (hl : Row w vl l.length (flatW l)) (hP : P.length ≤ 1048576) (hS : S.length ≤ 1048576)
  (hA : ∀ x ∈ l, -9223372036854775808 ≤ x.1 ∧ x.1 ≤ 9223372036854775807) :
  Calls Try.prog 6 #[v, vl] w fun e w' => ∃ v', e = .returned v' ∧ DiskOwn w' w.heap.size v' (dkP P l) (dkS S l) ∧ Below w.heap.size w w' := by
 obtain ⟨vp, vs, rfl, r1, r2⟩ := hd
 obtain ⟨a, b, off, cap, rfl, hcap, hmax, ha, hk⟩ := hl.writs
 unfold maxLen at hmax
 have R1 : Hid (∀ u, Below w.heap.size w u → Row u vp P.length (flatS P)) := fun u hu => r1.below hu
 have R2 : Hid (∀ u, Below w.heap.size w u → Row u vs S.length (flatP S)) := fun u hu => r2.below hu
 have HK : Hid _ := And.intro ha hk
 clear hl r1 r2 ha hk
 go_enter Try.func6, Try.ntmps6
 go_wp2_with fail
 go_cut [5] (fun s5 wx => Hid (Laid w P S s5 wx))
 case first =>
  have C1 : Hid (∀ u, Gd w (.cells #[vp, vs] 27) (.cells #[.slice none 0 0, .slice none 0 0] 27) u → Calls Try.prog 12 #[vp] u fun e w' => ∃ v', e = .returned v' ∧ w'.ownsRow w.heap.size 9 1 v' P.length (flatS P) ∧ Gd w (.cells #[vp, vs] 27) (.cells #[.slice none 0 0, .slice none 0 0] 27) w' ∧ w'.cell? ⟨w.heap.size, 1, none⟩ = some vs ∧ Below u.heap.size u w') :=
   fun u hu => (cloneS_any vp P u (R1.out u hu.1) (by omega)).mono (fun e w' ⟨v', h1, h2, h3⟩ => ⟨v', h1, owns_mono h2 hu.1.size, hu.below h3, cell_of_cells (hu.below h3).2.2.1, h3⟩)
  have C2 : Hid (∀ u w1 v1, Below w1.heap.size w1 u → Gd w (.cells #[vp, vs] 27) (.cells #[.slice none 0 0, .slice none 0 0] 27) w1 → w1.ownsRow w.heap.size 9 1 v1 P.length (flatS P) → Calls Try.prog 13 #[vs] u fun e w' => ∃ v', e = .returned v' ∧ w'.ownsRow w.heap.size 33 2 v' S.length (flatP S) ∧ w'.ownsRow w.heap.size 9 1 v1 P.length (flatS P) ∧ Gd w (.cells #[vp, vs] 27) (.cells #[.slice none 0 0, .slice none 0 0] 27) w' ∧ Below u.heap.size u w') :=
   fun u w1 v1 hb hg ho => (cloneP_any vs S u (R2.out u (hg.below hb).1) (by omega)).mono (fun e w' ⟨v', h1, h2, h3⟩ => ⟨v', h1, owns_mono h2 (hg.below hb).1.size, owns_below ho (Below.and hb h3), (hg.below hb).below h3, h3⟩)
  have GS := Gd.start w (.cells #[vp, vs] 27) (.cells #[.slice none 0 0, .slice none 0 0] 27)
  clear HK R1 R2
  go_region_with (first | (go_at_call 12; refine (C1.out _ (by (repeat (first | exact GS | apply Gd.al | apply Gd.drew)))).mono ?_; rintro e w1 ⟨v1, rfl, o1, G1, c1, b1⟩; have l0 := G1.2.1; have l1 : w.heap.size < w1.heap.size := (by omega); have l2 : ¬ w.heap.size = w1.heap.size := (by omega); have l3 : ¬ w1.heap.size = w.heap.size := (by omega); (first | (have N1 : w1.heap[w.heap.size + 1 + 1]? = some (.cells #[.slice none 0 0, .slice none 0 0] 27) := (b1.block _ (by first | simp | (show w.heap.size + 1 + 1 < ((w.alloc _).alloc _ |>.alloc _).heap.size; simp))).trans (al3d w (.cells #[vp, vs] 27) (.cells #[.slice none 0 0, .slice none 0 0] 27) (.cells #[.slice none 0 0, .slice none 0 0] 27)).2.2) | skip); obtain ⟨ad1, q1, rfl⟩ := owns_val o1) | (go_at_call 13; refine (C2.out _ w1 _ (by (repeat (first | exact Below.refl _ _ | apply bel_al | apply Below.drew))) G1 o1).mono ?_; rintro e w2 ⟨v2, rfl, o2, o12, G2, b2⟩; (first | (have N2 : w2.heap[w1.heap.size]? = some (.cells #[.slice none 0 0, .slice none 0 0] 27) := (b2.block _ (by simp)).trans (heap_alloc_new w1 _); have e0 : w2.cell? ⟨w1.heap.size, 0, none⟩ = some (.slice none 0 0) := cell_of_cells N2; have e1 : w2.cell? ⟨w1.heap.size, 1, none⟩ = some (.slice none 0 0) := cell_of_cells N2; have f0 : w2.frozen? ⟨w1.heap.size, 0, none⟩ = false := frozen_of_cells N2; have f1 : w2.frozen? ⟨w1.heap.size, 1, none⟩ = false := frozen_of_cells N2) | (have N2 : w2.heap[w.heap.size + 1 + 1]? = some (.cells #[.slice none 0 0, .slice none 0 0] 27) := (b2.block _ (by have := b1.size; simp at this; omega)).trans N1; have e0 : w2.cell? ⟨w.heap.size + 1 + 1, 0, none⟩ = some (.slice none 0 0) := cell_of_cells N2; have e1 : w2.cell? ⟨w.heap.size + 1 + 1, 1, none⟩ = some (.slice none 0 0) := cell_of_cells N2; have f0 : w2.frozen? ⟨w.heap.size + 1 + 1, 0, none⟩ = false := frozen_of_cells N2; have f1 : w2.frozen? ⟨w.heap.size + 1 + 1, 1, none⟩ = false := frozen_of_cells N2) | skip); obtain ⟨ad2, q2, rfl⟩ := owns_val o2))
  all_goals
   go_wp2_with fail
   go_meet
   case rel => first | exact laid_new G2 o12 o2 | exact laid_set G2 o12 o2 N2 (by omega)
 case rest =>
  obtain ⟨B, v1, v2, rfl, hB, hR, hlt, hD, hbel⟩ := hcut.out
  have shp : ∃ a1 q1 a2 q2, v1 = .slice a1 P.length q1 ∧ v2 = .slice a2 S.length q2 := by
   obtain ⟨x, y, e, h1, h2⟩ := hD
   simp at e
   obtain ⟨rfl, rfl⟩ := e
   obtain ⟨a1, q1, e1⟩ := owns_val h1
   obtain ⟨a2, q2, e2⟩ := owns_val h2
   exact ⟨a1, q1, a2, q2, e1, e2⟩
  obtain ⟨a1, q1, a2, q2, rfl, rfl⟩ := shp
  clear hcut
  have I0 : Hid _ := And.intro hB (And.intro hR (And.intro hD hbel))
  clear hB hR hD hbel
  go_wp2
  go_loopw [17] (fun i wr => ∃ k : Nat, k ≤ l.length ∧ i = .int .i64 k ∧ Hid (wr.heap[B]? = some (.cells #[.slice a1 P.length q1, .slice a2 S.length q2] 27) ∧ wr.heap[w.heap.size + 1]? = some (.cells #[.slice none 0 0, .slice none 0 0] 27) ∧ DiskOwn wr w.heap.size (.agg #[.slice a1 P.length q1, .slice a2 S.length q2]) (dkP P (l.take k)) (dkS S (l.take k)) ∧ Below w.heap.size w wr))
   (fun i _ => l.length - (intOf i).toNat)
  case atStart => exact ⟨0, Nat.zero_le _, rfl, I0.out⟩
  case round =>
   obtain ⟨k, hkl, rfl, hI⟩ := hrel
   obtain ⟨hB, hR, hD, hbel⟩ := hI.out
   have m0 : wr.cell? ⟨B, 0, none⟩ = some (.slice a1 P.length q1) := cell_of_cells hB
   have m1 : wr.cell? ⟨B, 1, none⟩ = some (.slice a2 S.length q2) := cell_of_cells hB
   have hBl : B < wr.heap.size := (Array.getElem?_eq_some_iff.1 hB).1
   have hBn : ¬ B = wr.heap.size := by omega
   have hBm : ¬ wr.heap.size = B := by omega
   clear hI I0
   by_cases hlt' : k < l.length
   ·have hal := HK.out.1 (by omega)
    subst hal
    obtain ⟨c0, c1, c2, c3⟩ := HK.out.2 k hlt'
    have bb : b < wr.heap.size := Nat.lt_of_lt_of_le (cell_lt c0) hbel.size
    have d0 := (hbel.cell (by exact cell_lt c0)).trans c0
    have d1 := (hbel.cell (by exact cell_lt c1)).trans c1
    have d2 := (hbel.cell (by exact cell_lt c2)).trans c2
    have d3 := (hbel.cell (by exact cell_lt c3)).trans c3
    have hab := wA_bound hA hlt'
    have NP := dkP_next l P k hlt'
    have NS := dkS_next l S k hlt'
    have J : Hid _ := And.intro hB (And.intro hR (And.intro hD (And.intro hbel (And.intro NP NS))))
    clear c0 c1 c2 c3 hB hR hD hbel NP NS
    go_wp2_with fail
    have hDa := J.out.2.2.1.below (bel_al (w := wr) (Below.refl _ _) (.cells #[.int .i64 (wA l k), .string (wT l k), .int .i64 (wV l k), .int .i64 (wR l k)] 35))
    refine (writeInto_any w.heap.size _ _ _ (wA l k) (wT l k) (wV l k) (wR l k) _ hDa hab.1 hab.2).mono ?_
    rintro e w1 ⟨rfl, D1, ch⟩
    obtain ⟨hB, hR, hD, hbel, NP, NS⟩ := J.out
    have bA : Below w.heap.size w (wr.alloc (.cells #[.int .i64 (wA l k), .string (wT l k), .int .i64 (wV l k), .int .i64 (wR l k)] 35)) := bel_al hbel _
    have hB1 := ((bel_al (w := wr) (Below.refl _ _) (.cells #[.int .i64 (wA l k), .string (wT l k), .int .i64 (wV l k), .int .i64 (wR l k)] 35)).block _ hBl).trans hB
    have hR1 := ((bel_al (w := wr) (Below.refl _ _) (.cells #[.int .i64 (wA l k), .string (wT l k), .int .i64 (wV l k), .int .i64 (wR l k)] 35)).block _ (by omega)).trans hR
    have hB2 := row_chg hB1 ch (fun h => hDa.ne hB1 h rfl)
    have hR2 := row_chg hR1 ch (fun h => hDa.ne hR1 h rfl)
    have b1 : Below w.heap.size w w1 := bA.trans (ch.below (fun g _ hg => (hDa.lt hg).1) bA.size)
    rw [← NP, ← NS] at D1
    have F : Hid _ := And.intro hB2 (And.intro hR2 (And.intro D1 b1))
    clear hB hR hD hbel NP NS bA hB1 hR1 hB2 hR2 b1 D1 ch hDa J d0 d1 d2 d3 m0 m1
    go_wp2
    go_roundw
    case rel => exact ⟨k + 1, by omega, by go_num, F.out⟩
    case measure => simp [intOf]; omega
   ·have hkk : k = l.length := by omega
    subst hkk
    rw [List.take_length] at hD
    have n0 : wr.cell? ⟨w.heap.size + 1, 0, none⟩ = some (.slice none 0 0) := cell_of_cells hR
    have n1 : wr.cell? ⟨w.heap.size + 1, 1, none⟩ = some (.slice none 0 0) := cell_of_cells hR
    have f0 : wr.frozen? ⟨w.heap.size + 1, 0, none⟩ = false := frozen_of_cells hR
    have f1 : wr.frozen? ⟨w.heap.size + 1, 1, none⟩ = false := frozen_of_cells hR
    have ch : Chg (fun g => g = w.heap.size + 1) wr ((wr.setCell ⟨w.heap.size + 1, 0, none⟩ (.slice a1 P.length q1)).setCell ⟨w.heap.size + 1, 1, none⟩ (.slice a2 S.length q2)) := ((Chg.refl (fun g => g = w.heap.size + 1) _).setAt (w.heap.size + 1) 0 rfl _).setAt (w.heap.size + 1) 1 rfl _
    have F : Hid (DiskOwn ((wr.setCell ⟨w.heap.size + 1, 0, none⟩ (.slice a1 P.length q1)).setCell ⟨w.heap.size + 1, 1, none⟩ (.slice a2 S.length q2)) w.heap.size (.agg #[.slice a1 P.length q1, .slice a2 S.length q2]) (dkP P l) (dkS S l) ∧ Below w.heap.size w ((wr.setCell ⟨w.heap.size + 1, 0, none⟩ (.slice a1 P.length q1)).setCell ⟨w.heap.size + 1, 1, none⟩ (.slice a2 S.length q2))) :=
     ⟨hD.chg ch (fun g hg => hD.ne hR hg), hbel.trans (ch.below (fun g _ hg => by omega) hbel.size)⟩
    clear hB hR hD hbel ch
    go_wp2
    refine bodyPost_ret (v := .agg #[.slice a1 P.length q1, .slice a2 S.length q2]) (by simp [results, Try.results6, go_sem, n0, n1]) rfl ⟨_, rfl, F.out⟩
end
section
open Go.RowKit

structure Tr where
 leaf : Bool
 pairs : List (Int × Int)
 cuts : List Int
 kids : List Tr
 buf : ML

structure TV where
 lf : Bool
 p : Value
 c : Value
 k : Value
 b : Value

def TV.cells (x : TV) : List Value := [.bool x.lf, x.p, x.c, x.k, x.b]
abbrev TV.val (x : TV) : Value := .agg #[.bool x.lf, x.p, x.c, x.k, x.b]
def flatT (l : List TV) : List Value := l.flatMap TV.cells
def flatI (l : List Int) : List Value := l.map (.int .i64)

def noTr : Tr := ⟨true, [], [], [], []⟩
def noTV : TV := ⟨false, .slice none 0 0, .slice none 0 0, .slice none 0 0, .slice none 0 0⟩
def kidT (T : Tr) (i : Nat) : Tr := T.kids.getD i noTr
def cutT (T : Tr) (i : Nat) : Int := T.cuts.getD i 0
def iAt (l : List Int) (i : Nat) : Int := l.getD i 0
def tvAt (l : List TV) (i : Nat) : TV := l.getD i noTV

theorem flatI_length (l : List Int) : (flatI l).length = l.length := by simp [flatI]
theorem flatI_at (l : List Int) (i : Nat) (h : i < l.length) : (flatI l)[i]? = some (.int .i64 (iAt l i)) := by simp [flatI, iAt, List.getD, h]
theorem flatT_cons (x : TV) (l : List TV) : flatT (x :: l) = .bool x.lf :: x.p :: x.c :: x.k :: x.b :: flatT l := rfl
theorem flatT_append (l m : List TV) : flatT (l ++ m) = flatT l ++ flatT m := by simp [flatT, List.flatMap_append]
theorem flatT_length (l : List TV) : (flatT l).length = l.length * 5 := by
 induction l with
 | nil => rfl
 | cons a l ih => rw [flatT_cons]; simp only [List.length_cons]; omega
theorem flatT_at (l : List TV) : ∀ i, i < l.length → (flatT l)[i * 5]? = some (.bool (tvAt l i).lf) ∧ (flatT l)[i * 5 + 1]? = some (tvAt l i).p ∧ (flatT l)[i * 5 + 2]? = some (tvAt l i).c ∧ (flatT l)[i * 5 + 3]? = some (tvAt l i).k ∧ (flatT l)[i * 5 + 4]? = some (tvAt l i).b := by
 induction l with
 | nil => intro i h; simp at h
 | cons a l ih =>
  intro i h
  cases i with
  | zero => simp [flatT_cons, tvAt]
  | succ i =>
   have := ih i (by simpa using h)
   rw [show (i + 1) * 5 = i * 5 + 1 + 1 + 1 + 1 + 1 by omega, flatT_cons]
   rw [show i * 5 + 1 + 1 + 1 + 1 + 1 + 1 = (i * 5 + 1) + 1 + 1 + 1 + 1 + 1 by omega, show i * 5 + 1 + 1 + 1 + 1 + 1 + 2 = (i * 5 + 2) + 1 + 1 + 1 + 1 + 1 by omega, show i * 5 + 1 + 1 + 1 + 1 + 1 + 3 = (i * 5 + 3) + 1 + 1 + 1 + 1 + 1 by omega, show i * 5 + 1 + 1 + 1 + 1 + 1 + 4 = (i * 5 + 4) + 1 + 1 + 1 + 1 + 1 by omega]
   simpa [tvAt] using this
theorem flatT_set (l : List TV) (y : TV) : ∀ i, i < l.length → (((((flatT l).set (i * 5) (.bool y.lf)).set (i * 5 + 1) y.p).set (i * 5 + 2) y.c).set (i * 5 + 3) y.k).set (i * 5 + 4) y.b = flatT (l.set i y) := by
 induction l with
 | nil => intro i h; simp at h
 | cons a l ih =>
  intro i h
  cases i with
  | zero => simp [flatT_cons]
  | succ i =>
   have := ih i (by simpa using h)
   rw [flatT_cons, List.set_cons_succ, flatT_cons, show (i + 1) * 5 + 4 = (i * 5 + 4) + 1 + 1 + 1 + 1 + 1 by omega, show (i + 1) * 5 + 3 = (i * 5 + 3) + 1 + 1 + 1 + 1 + 1 by omega, show (i + 1) * 5 + 2 = (i * 5 + 2) + 1 + 1 + 1 + 1 + 1 by omega, show (i + 1) * 5 + 1 = (i * 5 + 1) + 1 + 1 + 1 + 1 + 1 by omega, show (i + 1) * 5 = i * 5 + 1 + 1 + 1 + 1 + 1 by omega]
   simp only [List.set_cons_succ]
   rw [this]

theorem Row.ints {w : World} {v : Value} {l : List Int} (h : Row w v l.length (flatI l)) :
  ∃ (a : Option Addr) (b off cap : Nat), v = .slice a l.length cap ∧ l.length ≤ cap ∧ cap ≤ maxLen ∧ (0 < l.length → a = some ⟨b, off, none⟩) ∧
   (∀ i, i < l.length → w.cell? ⟨b, off + i, none⟩ = some (.int .i64 (iAt l i))) := by
 obtain ⟨a, b, off, cap, h1, h2, h3, h4, h5, _⟩ := h
 exact ⟨a, b, off, cap, h1, h2, h3, h4, fun i hi => h5 _ _ (flatI_at l i hi)⟩
theorem Row.trees {w : World} {v : Value} {l : List TV} (h : Row w v l.length (flatT l)) :
  ∃ (a : Option Addr) (b off cap : Nat), v = .slice a l.length cap ∧ l.length ≤ cap ∧ cap ≤ maxLen ∧ (0 < l.length → a = some ⟨b, off, none⟩) ∧
   (∀ i, i < l.length → w.cell? ⟨b, off + i * 5, none⟩ = some (.bool (tvAt l i).lf)) ∧ (∀ i, i < l.length → w.cell? ⟨b, off + i * 5 + 1, none⟩ = some (tvAt l i).p) ∧ (∀ i, i < l.length → w.cell? ⟨b, off + i * 5 + 2, none⟩ = some (tvAt l i).c) ∧
   (∀ i, i < l.length → w.cell? ⟨b, off + i * 5 + 3, none⟩ = some (tvAt l i).k) ∧ (∀ i, i < l.length → w.cell? ⟨b, off + i * 5 + 4, none⟩ = some (tvAt l i).b) := by
 obtain ⟨a, b, off, cap, h1, h2, h3, h4, h5, _⟩ := h
 exact ⟨a, b, off, cap, h1, h2, h3, h4, fun i hi => h5 _ _ (flatT_at l i hi).1, fun i hi => h5 _ _ (flatT_at l i hi).2.1, fun i hi => h5 _ _ (flatT_at l i hi).2.2.1, fun i hi => h5 _ _ (flatT_at l i hi).2.2.2.1, fun i hi => h5 _ _ (flatT_at l i hi).2.2.2.2⟩
theorem Row.len {w : World} {v : Value} {n : Nat} {xs : List Value} (h : Row w v n xs) : ∃ (a : Option Addr) (cap : Nat), v = .slice a n cap ∧ n ≤ maxLen := by
 obtain ⟨a, b, off, cap, h1, h2, h3, _⟩ := h
 exact ⟨a, cap, h1, Nat.le_trans h2 h3⟩

def TreeAt : Nat → World → TV → Tr → Prop
 | 0, _, _, _ => False
 | n + 1, w, x, T => x.lf = T.leaf ∧ Row w x.p T.pairs.length (flatP T.pairs) ∧ Row w x.c T.cuts.length (flatI T.cuts) ∧ Row w x.b T.buf.length (flatM T.buf) ∧
   ∃ xs : List TV, xs.length = T.kids.length ∧ Row w x.k xs.length (flatT xs) ∧ ∀ i, i < xs.length → TreeAt n w (tvAt xs i) (kidT T i)

def TreesAt (n : Nat) (w : World) (v : Value) (ts : List Tr) : Prop :=
 ∃ xs : List TV, xs.length = ts.length ∧ Row w v xs.length (flatT xs) ∧ ∀ i, i < xs.length → TreeAt n w (tvAt xs i) (ts.getD i noTr)

theorem TreeAt.below : ∀ {n : Nat} {w w' : World} {x : TV} {T : Tr}, TreeAt n w x T → Below w.heap.size w w' → TreeAt n w' x T
 | 0, _, _, _, _, h, _ => h
 | _ + 1, _, _, _, _, ⟨h1, h2, h3, h4, xs, h5, h6, h7⟩, hb => ⟨h1, h2.below hb, h3.below hb, h4.below hb, xs, h5, h6.below hb, fun i hi => (h7 i hi).below hb⟩
theorem TreeAt.parts {n : Nat} {w : World} {x : TV} {T : Tr} (h : TreeAt (n + 1) w x T) :
  x.lf = T.leaf ∧ Row w x.p T.pairs.length (flatP T.pairs) ∧ Row w x.c T.cuts.length (flatI T.cuts) ∧ Row w x.b T.buf.length (flatM T.buf) ∧ TreesAt n w x.k T.kids := by
 obtain ⟨h1, h2, h3, h4, xs, h5, h6, h7⟩ := h
 exact ⟨h1, h2, h3, h4, xs, h5, h6, h7⟩
theorem TreeAt.mk {n : Nat} {w : World} {x : TV} {T : Tr} (h1 : x.lf = T.leaf) (h2 : Row w x.p T.pairs.length (flatP T.pairs)) (h3 : Row w x.c T.cuts.length (flatI T.cuts)) (h4 : Row w x.b T.buf.length (flatM T.buf)) (h5 : TreesAt n w x.k T.kids) : TreeAt (n + 1) w x T := by
 obtain ⟨xs, h5, h6, h7⟩ := h5
 exact ⟨h1, h2, h3, h4, xs, h5, h6, h7⟩

def sizeT : Nat → Tr → Nat
 | 0, _ => 0
 | n + 1, T => T.pairs.length + (T.cuts.length + (T.kids.length + (T.kids.map (sizeT n)).sum + T.buf.length))
def sizeTs (n : Nat) (ts : List Tr) : Nat := ts.length + (ts.map (sizeT n)).sum
def sumTo (n : Nat) (ts : List Tr) (k : Nat) : Nat := ((ts.take k).map (sizeT n)).sum
theorem sumTo_succ (n : Nat) (ts : List Tr) (k : Nat) (h : k < ts.length) : sumTo n ts (k + 1) = sumTo n ts k + sizeT n (ts.getD k noTr) := by
 rw [sumTo, sumTo, List.take_succ_eq_append_getElem h, List.map_append, List.sum_append]
 simp [List.getD, h]
theorem sumTo_le (n : Nat) (ts : List Tr) : ∀ k, sumTo n ts k ≤ (ts.map (sizeT n)).sum := by
 intro k
 have h : (ts.map (sizeT n)).sum = ((ts.take k).map (sizeT n)).sum + ((ts.drop k).map (sizeT n)).sum := by
  rw [← List.sum_append, ← List.map_append, List.take_append_drop]
 rw [sumTo, h]
 omega
theorem sizeT_kid {n : Nat} {T : Tr} {i : Nat} (hi : i < T.kids.length) : sizeT n (kidT T i) + T.kids.length ≤ sizeT (n + 1) T := by
 have h1 := sumTo_le n T.kids (i + 1)
 rw [sumTo_succ n T.kids i hi] at h1
 show sizeT n (T.kids.getD i noTr) + _ ≤ T.pairs.length + (T.cuts.length + (T.kids.length + (T.kids.map (sizeT n)).sum + T.buf.length))
 omega

def leftOf (left : Int) (n : Nat) : Int := if (n : Int) ≤ left then left - n else -1
end
section
def allB (n : Nat) (f : Nat → Bool) : Bool := (List.range n).all f
theorem allB_true {n : Nat} {f : Nat → Bool} (h : ∀ i, i < n → f i = true) : allB n f = true := by
 simp only [allB, List.all_eq_true, List.mem_range]; exact h
theorem allB_false {n : Nat} {f : Nat → Bool} {i : Nat} (hi : i < n) (h : f i = false) : allB n f = false := by
 rw [Bool.eq_false_iff]
 intro hc
 simp only [allB, List.all_eq_true, List.mem_range] at hc
 rw [hc i hi] at h
 cases h
theorem allB_at {n : Nat} {f : Nat → Bool} (h : allB n f = true) {i : Nat} (hi : i < n) : f i = true := by
 simp only [allB, List.all_eq_true, List.mem_range] at h
 exact h i hi

def pairAt (T : Tr) (lo hi : Int) (i : Nat) : Bool := inB (kOf T.pairs i) lo (hi - 1)
def pairsInB (T : Tr) (lo hi : Int) : Bool := allB T.pairs.length (pairAt T lo hi)
def leafOkB (T : Tr) (lo hi : Int) : Bool := mapOkB T.pairs && (decide (T.pairs.length ≤ 4) && (decide (T.cuts.length + T.kids.length + T.buf.length = 0) && pairsInB T lo hi))
def msgAt (T : Tr) (lo hi : Int) (i : Nat) : Bool := msgOkB (mO T.buf i) (mK T.buf i) (mV T.buf i) && (!(mO T.buf i == 4) && inB (mK T.buf i) lo (hi - 1))
def bufOkB (T : Tr) (lo hi : Int) : Bool := allB T.buf.length (msgAt T lo hi)
def fromT (T : Tr) (lo : Int) (i : Nat) : Int := if i = 0 then lo else iAt T.cuts (i - 1)
def toT (T : Tr) (hi : Int) (i : Nat) : Int := if i < T.cuts.length then iAt T.cuts i else hi
def cutAt (T : Tr) (lo hi : Int) (i : Nat) : Bool := inB (iAt T.cuts i) (fromT T lo i + 1) (hi - 1)
def cutsOkB (T : Tr) (lo hi : Int) : Bool := allB T.cuts.length (cutAt T lo hi)
def shapeB (T : Tr) : Bool := decide (T.pairs.length = 0) && (decide (2 ≤ T.kids.length ∧ T.kids.length ≤ 4) && (decide (T.cuts.length + 1 = T.kids.length) && decide (T.buf.length ≤ 6)))
def forkOkB (T : Tr) (lo hi : Int) : Bool := shapeB T && (bufOkB T lo hi && cutsOkB T lo hi)
def kidsD (d : Nat → Nat) (n : Nat) : Nat := if (!(d 0 == 0) && allB n fun i => d i == d 0) = true then d 0 + 1 else 0
def depthF : Nat → Tr → Int → Int → Nat
 | 0, _, _, _ => 0
 | m + 1, T, lo, hi => if T.leaf = true then (if leafOkB T lo hi = true then 1 else 0) else if forkOkB T lo hi = true then kidsD (fun i => depthF m (kidT T i) (fromT T lo i) (toT T hi i)) T.kids.length else 0
def kidF (m : Nat) (T : Tr) (lo hi : Int) (i : Nat) : Nat := depthF m (kidT T i) (fromT T lo i) (toT T hi i)

theorem depthF_leaf {m : Nat} {T : Tr} {lo hi : Int} (h : T.leaf = true) : depthF (m + 1) T lo hi = if leafOkB T lo hi = true then 1 else 0 := by rw [depthF, if_pos h]
theorem depthF_no {m : Nat} {T : Tr} {lo hi : Int} (h : T.leaf = false) (hf : forkOkB T lo hi = false) : depthF (m + 1) T lo hi = 0 := by
 rw [depthF, if_neg (by rw [h]; decide), if_neg (by rw [hf]; decide)]
theorem depthF_fork {m : Nat} {T : Tr} {lo hi : Int} (h : T.leaf = false) (hf : forkOkB T lo hi = true) : depthF (m + 1) T lo hi = kidsD (kidF m T lo hi) T.kids.length := by
 rw [depthF, if_neg (by rw [h]; decide), if_pos hf]; rfl
theorem kidsD_zero {d : Nat → Nat} {n i : Nat} (hi : i < n) (h : d i = 0) : kidsD d n = 0 := by
 rw [kidsD, if_neg]
 intro hc
 simp only [Bool.and_eq_true] at hc
 have := allB_at hc.2 hi
 simp only [beq_iff_eq] at this
 rw [h] at this
 rw [← this] at hc
 simp at hc
theorem kidsD_ne {d : Nat → Nat} {n i : Nat} (hi : i < n) (h : d i ≠ d 0) : kidsD d n = 0 := by
 rw [kidsD, if_neg]
 intro hc
 simp only [Bool.and_eq_true] at hc
 have := allB_at hc.2 hi
 simp only [beq_iff_eq] at this
 exact h this
theorem kidsD_yes {d : Nat → Nat} {n : Nat} (h0 : d 0 ≠ 0) (h : ∀ i, i < n → d i = d 0) : kidsD d n = d 0 + 1 := by
 rw [kidsD, if_pos]
 simp only [Bool.and_eq_true]
 refine ⟨by simpa using h0, allB_true fun i hi => by simpa using h i hi⟩
theorem kidsD_le {d : Nat → Nat} {n m : Nat} (h : ∀ i, d i ≤ m) : kidsD d n ≤ m + 1 := by
 unfold kidsD
 split
 ·have := h 0; omega
 ·omega
theorem depthF_le : ∀ (m : Nat) (T : Tr) (lo hi : Int), depthF m T lo hi ≤ m
 | 0, _, _, _ => by simp [depthF]
 | m + 1, T, lo, hi => by
  rw [depthF]
  split
  ·split <;> omega
  ·split
   ·exact kidsD_le fun i => depthF_le m _ _ _
   ·omega

def pairsF : Nat → Tr → Nat
 | 0, _ => 0
 | n + 1, T => T.pairs.length + (T.kids.map (pairsF n)).sum
def msgsF : Nat → Tr → Nat
 | 0, _ => 0
 | n + 1, T => T.buf.length + (T.kids.map (msgsF n)).sum
def sumF (f : Tr → Nat) (ts : List Tr) (k : Nat) : Nat := ((ts.take k).map f).sum
def cutsTo (l : List Int) (k : Int) : Nat := (l.filter fun c => decide (c ≤ k)).length

def depthT (T : Tr) : Nat := depthF 7 T 0 1000
def okT (T : Tr) : Bool := decide (0 < depthT T)
end
end Go.Proofs.Ytekcnibohikmdaa
