/-
  The walk of the law FnExactReadTree.
-/
import Derived.Test.YtckphbmlmjlipaaDoorRdTop
import Derived.Test.YtckphbmlmjlipaaDoorTMarkW
import Derived.Test.YtckphbmlmjlipaaDoorPart10
import Derived.Test.YtckphbmlmjlipaaDoorCallBy
import Derived.Deep.RegionHeld3
namespace Go.Proofs.YtckphbmlmjlipaaDoor
open Go.RowKit

def DB (t : TypeId) (u : World) (B : Nat) (x y : Value) : Prop := u.heap[B]? = some (.cells #[x, y] t (0, 0))
theorem DB.below {t : TypeId} {u u' : World} {B : Nat} {x y : Value} (h : DB t u B x y) (hb : Below u.heap.size u u') : DB t u' B x y := (hb.block _ (Array.getElem?_eq_some_iff.1 h).1).trans h
theorem DB.chg {t : TypeId} {F : Nat → Prop} {u u' : World} {B : Nat} {x y : Value} (h : DB t u B x y) (hc : Chg F u u') (hF : ¬ F B) : DB t u' B x y := row_chg h hc hF
theorem DB.new (t : TypeId) (u : World) (x y : Value) : DB t (u.alloc (.cells #[x, y] t)) u.heap.size x y := heap_alloc_new _ _
theorem DB.cells {t : TypeId} {u : World} {B : Nat} {x y : Value} (h : DB t u B x y) : u.cell? ⟨B, 0, none⟩ = some x ∧ u.cell? ⟨B, 1, none⟩ = some y ∧ B < u.heap.size :=
  ⟨by rw [cell_of_cells h]; rfl, by rw [cell_of_cells h]; rfl, (Array.getElem?_eq_some_iff.1 h).1⟩
theorem BoxIs.lt {u : World} {B : Nat} {a b c d e : Value} (h : BoxIs u B a b c d e) : B < u.heap.size := (Array.getElem?_eq_some_iff.1 h).1

/-- the answer whether there is a tree or none -/
def noneT : Tr := ⟨false, [], [], [], []⟩
theorem ReadRd.both {base : Nat} {g : Option Tr} {e : Ending} {w' : World} (h : ReadRd base g e w') : ∃ x : TV, e = .returned (.tuple #[x.val, .bool g.isSome]) ∧ TreeD 7 w' (Zone base w'.heap.size) x (g.getD noneT) := by
  cases g with
  | none =>
    refine ⟨⟨false, .slice Option.none 0 0, .slice Option.none 0 0, .slice Option.none 0 0, .slice Option.none 0 0⟩, h, rfl, OwnE.nil _ _ _ _, OwnE.nil _ _ _ _, OwnE.nil _ _ _ _, fun g hg => ?_, [], fun _ _ => False, rfl, OwnE.nil _ _ _ _, fun i hi => by simp at hi, fun i g hi => by simp at hi, fun i j g _ hj => by simp at hj⟩
    rcases hg with h | h | h | h <;> exact (wrB_nil g h).elim
  | some T => exact h
theorem readT_small (l : List ByteArray) (a : Int) : mkT 7 ((readT l a).getD noneT) ≤ 245760 := by
  have h0 : mkT 7 noneT = 0 := by decide
  unfold readT
  cases hr : readR (pgB l) 7 a with
  | none => rw [show (Option.getD none noneT) = noneT from rfl, h0]; omega
  | some T =>
    have h1 := readR_size l 7 a T hr
    have h2 := mkT_le 7 T
    by_cases hok : okT T = true
    · simp only [hok, if_true, Option.getD_some]
      omega
    · simp only [hok]
      simp [h0]
theorem szS_each : ∀ (l : List ByteArray) (left : Int), 0 ≤ szS left l → ∀ s ∈ l, (s.size : Int) ≤ left
  | [], _, _, s, hs => by cases hs
  | x :: r, left, h, s, hs => by
    simp only [szS] at h
    split at h
    · omega
    · rename_i hc
      rcases List.mem_cons.1 hs with rfl | hs
      · omega
      · have := szS_each r _ h s hs
        omega
theorem szD_each {P : PgL} {S : SL} {left : Int} (hl : left ≤ 1048576) (h : 0 ≤ szD P S left) : ∀ s ∈ P, s.size ≤ 1099511627776 := by
  intro s hs
  unfold szD at h
  split at h
  · omega
  · rename_i h1
    have h2 : 0 ≤ szSall P left := by omega
    unfold szSall at h2
    split at h2
    · omega
    · have := szS_each P _ h2 s hs
      omega
theorem diskOwn_shape {w : World} {base : Nat} {v : Value} {P : PgL} {S : SL} (h : DiskOwn w base v P S) : ∃ a1 q1 a2 q2, v = .agg #[.slice a1 P.length q1, .slice a2 S.length q2] := by
  obtain ⟨x, y, rfl, h1, h2⟩ := h
  obtain ⟨a1, q1, rfl⟩ := owns_val h1
  obtain ⟨a2, q2, rfl⟩ := owns_val h2
  exact ⟨a1, q1, a2, q2, rfl⟩
theorem run_toDisk (args : Array Value) (w : World) : (callFunc 7 args).run Tryd.prog w = .ok (.enter 7 args) w := by go_simp
theorem run_eqDisk (args : Array Value) (w : World) : (callFunc 10 args).run Tryd.prog w = .ok (.enter 10 args) w := by go_simp

set_option maxRecDepth 100000 in
set_option maxHeartbeats 8000000 in
theorem fnExactReadTree_any (ea : Addr) (v : Value) (P : PgL) (S : SL) (root : Int) (w : World) (hr : DiskRow w v P S) (hz : ∀ s ∈ P, s.size ≤ maxLen) (he : ErrIs ea w) :
    Calls Tryd.prog 3 #[v, .int .i64 root] w fun e w' => e = .returned (.bool true) ∧ Below w.heap.size w w' := by
  have HR : Hid (DiskRow w v P S) := hr
  obtain ⟨vp, vs, hv, _, _⟩ := hr
  subst hv
  have SZ : Hid (∀ u, Below w.heap.size w u → Calls Tryd.prog 5 #[.agg #[vp, vs], .int .i64 1048576] u fun e w' => e = .returned (.int .i64 (szD P S 1048576)) ∧ Below u.heap.size u w') := fun u hu => szDisk_any _ P S 1048576 u (HR.out.below hu) hz (by omega) (by omega)
  have h00 : 0 < w.heap.size := cell_lt he
  have HE : Hid (ErrIs ea (w.alloc (.cells #[vp, vs] 25))) := he.below (bel_new _ _)
  have B0 : Hid (DB 25 (w.alloc (.cells #[vp, vs] 25)) w.heap.size vp vs) := DB.new _ _ _ _
  have SB : Hid (Below w.heap.size w (w.alloc (.cells #[vp, vs] 25))) := bel_new _ _
  obtain ⟨c0, c1, _⟩ := B0.out.cells
  by_cases hs0 : 0 ≤ szD P S 1048576
  · have hlen := szD_len hs0
    have TO : Hid (∀ u, Below w.heap.size w u → Calls Tryd.prog 7 #[.agg #[vp, vs]] u fun e w' => ∃ v', e = .returned v' ∧ DiskOwn w' u.heap.size v' P S ∧ Below u.heap.size u w') := fun u hu => toDisk_any _ P S u (HR.out.below hu) (by omega) (by omega)
    have HZ : Hid (∀ s ∈ P, s.size ≤ maxLen ∧ s.size ≤ 1099511627776) := fun s hs => ⟨hz s hs, szD_each (by omega) hs0 s hs⟩
    have hPl : P.length ≤ 1048576 := by omega
    have hSl : S.length ≤ 1048576 := by omega
    have hMK := readT_small P root
    have hneg : ¬ (szD P S 1048576 < 0) := by omega
    generalize szD P S 1048576 = left at *
    clear hz HR hlen hs0 he
    generalize hT : (readT P root).getD noneT = T at *
    generalize hbb : (readT P root).isSome = bb at *
    have HT : Hid _ := hT
    have HBB : Hid _ := hbb
    clear hT hbb
    go_enter Tryd.func3, Tryd.ntmps3
    go_wp2_with fail
    generalize w.alloc (.cells #[vp, vs] 25) = W at *
    refine (SZ.out _ SB.out).mono ?_
    rintro e w1 ⟨rfl, b1⟩
    replace SB : Hid (Below w.heap.size w w1) := Below.and SB.out b1
    replace HE : Hid (ErrIs ea w1) := HE.out.below b1
    replace B0 : Hid (DB 25 w1 w.heap.size vp vs) := B0.out.below b1
    have y1 : w.heap.size < w1.heap.size := B0.out.cells.2.2
    clear b1 c0 c1
    obtain ⟨c0, c1, _⟩ := B0.out.cells
    go_wp2_with fail
    refine (TO.out _ SB.out).mono ?_
    rintro e w2 ⟨x1, rfl, o2, b2⟩
    replace SB : Hid (Below w.heap.size w w2) := Below.and SB.out b2
    replace HE : Hid (ErrIs ea w2) := HE.out.below b2
    replace B0 : Hid (DB 25 w2 w.heap.size vp vs) := B0.out.below b2
    have y2 : w1.heap.size ≤ w2.heap.size := b2.size
    clear b2 c0 c1
    obtain ⟨e1, e2, rfl, r1, _⟩ := o2.row
    go_wp2_with fail
    refine (specReadTree_any e1 e2 P HZ.out root w2 r1).mono ?_
    rintro e w3 ⟨hn, b3⟩
    obtain ⟨x, hx, tw⟩ := hn.both
    rw [HT.out] at tw
    rw [HBB.out] at hx
    subst hx
    clear hn
    obtain ⟨al, ap, ac, ak, ab⟩ := x
    obtain ⟨⟨a1, a5, a9, hs1⟩, ⟨a2, a6, aa, hs2⟩, ⟨a3, a7, ab, hs3⟩, ⟨a4, a8, ac, hs4⟩, _⟩ := TreeD.slices tw
    simp only at hs1 hs2 hs3 hs4
    subst hs1 hs2 hs3 hs4
    replace SB : Hid (Below w.heap.size w w3) := Below.and SB.out b3
    replace HE : Hid (ErrIs ea w3) := HE.out.below b3
    replace B0 : Hid (DB 25 w3 w.heap.size vp vs) := B0.out.below b3
    have TW : Hid (TreeD 7 (w3.alloc (.cells #[.bool al, .slice a1 a5 a9, .slice a2 a6 aa, .slice a3 a7 ab, .slice a4 a8 ac] 32)) (Zone w2.heap.size w3.heap.size) (TV.mk al (.slice a1 a5 a9) (.slice a2 a6 aa) (.slice a3 a7 ab) (.slice a4 a8 ac)) T) := tw.below (bel_new _ _)
    have BW : Hid (BoxIs (w3.alloc (.cells #[.bool al, .slice a1 a5 a9, .slice a2 a6 aa, .slice a3 a7 ab, .slice a4 a8 ac] 32)) w3.heap.size (.bool al) (.slice a1 a5 a9) (.slice a2 a6 aa) (.slice a3 a7 ab) (.slice a4 a8 ac)) := heap_alloc_new _ _
    replace SB : Hid (Below w.heap.size w (w3.alloc (.cells #[.bool al, .slice a1 a5 a9, .slice a2 a6 aa, .slice a3 a7 ab, .slice a4 a8 ac] 32))) := Below.and SB.out (bel_new _ _)
    replace HE : Hid (ErrIs ea (w3.alloc (.cells #[.bool al, .slice a1 a5 a9, .slice a2 a6 aa, .slice a3 a7 ab, .slice a4 a8 ac] 32))) := HE.out.below (bel_new _ _)
    replace B0 : Hid (DB 25 (w3.alloc (.cells #[.bool al, .slice a1 a5 a9, .slice a2 a6 aa, .slice a3 a7 ab, .slice a4 a8 ac] 32)) w.heap.size vp vs) := B0.out.below (bel_new _ _)
    have y3 : w2.heap.size ≤ w3.heap.size := b3.size
    obtain ⟨c0, c1, _⟩ := B0.out.cells
    clear tw b3 o2 r1
    go_wp2_with fail
    have s4 : (w3.alloc (.cells #[.bool al, .slice a1 a5 a9, .slice a2 a6 aa, .slice a3 a7 ab, .slice a4 a8 ac] 32)).heap.size = w3.heap.size + 1 := by simp
    generalize (w3.alloc (.cells #[.bool al, .slice a1 a5 a9, .slice a2 a6 aa, .slice a3 a7 ab, .slice a4 a8 ac] 32)) = V4 at *
    refine (TO.out _ SB.out).mono ?_
    rintro e w5 ⟨xd, rfl, o5, b5⟩
    replace SB : Hid (Below w.heap.size w w5) := Below.and SB.out b5
    replace HE : Hid (ErrIs ea w5) := HE.out.below b5
    replace B0 : Hid (DB 25 w5 w.heap.size vp vs) := B0.out.below b5
    replace TW : Hid (TreeD 7 w5 (Zone w2.heap.size w3.heap.size) (TV.mk al (.slice a1 a5 a9) (.slice a2 a6 aa) (.slice a3 a7 ab) (.slice a4 a8 ac)) T) := TW.out.below b5
    replace BW : Hid (BoxIs w5 w3.heap.size (.bool al) (.slice a1 a5 a9) (.slice a2 a6 aa) (.slice a3 a7 ab) (.slice a4 a8 ac)) := BW.out.chg (Chg.of_below (F := fun _ => False) b5) id
    have y5 : V4.heap.size ≤ w5.heap.size := b5.size
    obtain ⟨u1, q1, u2, q2, hxd⟩ := diskOwn_shape o5
    subst hxd
    have XL : Hid (∀ g, dBlk (.agg #[.slice u1 P.length q1, .slice u2 S.length q2]) g → V4.heap.size ≤ g ∧ g < w5.heap.size) := fun g hg => o5.lt hg
    have XO : Hid (DiskOwn (w5.alloc (.cells #[.slice u1 P.length q1, .slice u2 S.length q2] 37)) V4.heap.size (.agg #[.slice u1 P.length q1, .slice u2 S.length q2]) P S) := o5.below (bel_new _ _)
    have BX : Hid (DB 37 (w5.alloc (.cells #[.slice u1 P.length q1, .slice u2 S.length q2] 37)) w5.heap.size (.slice u1 P.length q1) (.slice u2 S.length q2)) := DB.new _ _ _ _
    replace SB : Hid (Below w.heap.size w (w5.alloc (.cells #[.slice u1 P.length q1, .slice u2 S.length q2] 37))) := Below.and SB.out (bel_new _ _)
    replace HE : Hid (ErrIs ea (w5.alloc (.cells #[.slice u1 P.length q1, .slice u2 S.length q2] 37))) := HE.out.below (bel_new _ _)
    replace B0 : Hid (DB 25 (w5.alloc (.cells #[.slice u1 P.length q1, .slice u2 S.length q2] 37)) w.heap.size vp vs) := B0.out.below (bel_new _ _)
    replace TW : Hid (TreeD 7 (w5.alloc (.cells #[.slice u1 P.length q1, .slice u2 S.length q2] 37)) (Zone w2.heap.size w3.heap.size) (TV.mk al (.slice a1 a5 a9) (.slice a2 a6 aa) (.slice a3 a7 ab) (.slice a4 a8 ac)) T) := TW.out.below (bel_new _ _)
    replace BW : Hid (BoxIs (w5.alloc (.cells #[.slice u1 P.length q1, .slice u2 S.length q2] 37)) w3.heap.size (.bool al) (.slice a1 a5 a9) (.slice a2 a6 aa) (.slice a3 a7 ab) (.slice a4 a8 ac)) := BW.out.chg (Chg.of_below (F := fun _ => False) (bel_new _ _)) id
    clear b5 o5 c0 c1
    obtain ⟨c0, c1, _⟩ := BX.out.cells
    go_wp2_with fail
    have s6 : (w5.alloc (.cells #[.slice u1 P.length q1, .slice u2 S.length q2] 37)).heap.size = w5.heap.size + 1 := by simp
    generalize (w5.alloc (.cells #[.slice u1 P.length q1, .slice u2 S.length q2] 37)) = V6 at *
    obtain ⟨_, _, hq, r1, _⟩ := XO.out.row
    simp at hq
    obtain ⟨hq1, hq2⟩ := hq
    rw [← hq1] at r1
    refine (implReadTree_any ea (.slice u1 P.length q1) (.slice u2 S.length q2) P (fun s hs => (HZ.out s hs).1) root V6 r1 HE.out).mono ?_
    rintro e w7 ⟨hn, b7⟩
    obtain ⟨x, hx, tg⟩ := hn.both
    rw [HT.out] at tg
    rw [HBB.out] at hx
    subst hx
    clear hn r1 hq1 hq2
    obtain ⟨gl, gp, gc, gk, gb⟩ := x
    obtain ⟨⟨g1, g5, g9, hs1⟩, ⟨g2, g6, ga, hs2⟩, ⟨g3, g7, gb, hs3⟩, ⟨g4, g8, gc, hs4⟩, _⟩ := TreeD.slices tg
    simp only at hs1 hs2 hs3 hs4
    subst hs1 hs2 hs3 hs4
    replace SB : Hid (Below w.heap.size w w7) := Below.and SB.out b7
    replace HE : Hid (ErrIs ea w7) := HE.out.below b7
    replace B0 : Hid (DB 25 w7 w.heap.size vp vs) := B0.out.below b7
    replace TW : Hid (TreeD 7 w7 (Zone w2.heap.size w3.heap.size) (TV.mk al (.slice a1 a5 a9) (.slice a2 a6 aa) (.slice a3 a7 ab) (.slice a4 a8 ac)) T) := TW.out.below b7
    replace BW : Hid (BoxIs w7 w3.heap.size (.bool al) (.slice a1 a5 a9) (.slice a2 a6 aa) (.slice a3 a7 ab) (.slice a4 a8 ac)) := BW.out.chg (Chg.of_below (F := fun _ => False) b7) id
    replace XO : Hid (DiskOwn w7 V4.heap.size (.agg #[.slice u1 P.length q1, .slice u2 S.length q2]) P S) := XO.out.below b7
    replace BX : Hid (DB 37 w7 w5.heap.size (.slice u1 P.length q1) (.slice u2 S.length q2)) := BX.out.below b7
    have y7 : V6.heap.size ≤ w7.heap.size := b7.size
    have TG : Hid (TreeD 7 (w7.alloc (.cells #[.bool gl, .slice g1 g5 g9, .slice g2 g6 ga, .slice g3 g7 gb, .slice g4 g8 gc] 32)) (Zone V6.heap.size w7.heap.size) (TV.mk gl (.slice g1 g5 g9) (.slice g2 g6 ga) (.slice g3 g7 gb) (.slice g4 g8 gc)) T) := tg.below (bel_new _ _)
    have BG : Hid (BoxIs (w7.alloc (.cells #[.bool gl, .slice g1 g5 g9, .slice g2 g6 ga, .slice g3 g7 gb, .slice g4 g8 gc] 32)) w7.heap.size (.bool gl) (.slice g1 g5 g9) (.slice g2 g6 ga) (.slice g3 g7 gb) (.slice g4 g8 gc)) := heap_alloc_new _ _
    replace SB : Hid (Below w.heap.size w (w7.alloc (.cells #[.bool gl, .slice g1 g5 g9, .slice g2 g6 ga, .slice g3 g7 gb, .slice g4 g8 gc] 32))) := Below.and SB.out (bel_new _ _)
    replace HE : Hid (ErrIs ea (w7.alloc (.cells #[.bool gl, .slice g1 g5 g9, .slice g2 g6 ga, .slice g3 g7 gb, .slice g4 g8 gc] 32))) := HE.out.below (bel_new _ _)
    replace B0 : Hid (DB 25 (w7.alloc (.cells #[.bool gl, .slice g1 g5 g9, .slice g2 g6 ga, .slice g3 g7 gb, .slice g4 g8 gc] 32)) w.heap.size vp vs) := B0.out.below (bel_new _ _)
    replace TW : Hid (TreeD 7 (w7.alloc (.cells #[.bool gl, .slice g1 g5 g9, .slice g2 g6 ga, .slice g3 g7 gb, .slice g4 g8 gc] 32)) (Zone w2.heap.size w3.heap.size) (TV.mk al (.slice a1 a5 a9) (.slice a2 a6 aa) (.slice a3 a7 ab) (.slice a4 a8 ac)) T) := TW.out.below (bel_new _ _)
    replace BW : Hid (BoxIs (w7.alloc (.cells #[.bool gl, .slice g1 g5 g9, .slice g2 g6 ga, .slice g3 g7 gb, .slice g4 g8 gc] 32)) w3.heap.size (.bool al) (.slice a1 a5 a9) (.slice a2 a6 aa) (.slice a3 a7 ab) (.slice a4 a8 ac)) := BW.out.chg (Chg.of_below (F := fun _ => False) (bel_new _ _)) id
    replace XO : Hid (DiskOwn (w7.alloc (.cells #[.bool gl, .slice g1 g5 g9, .slice g2 g6 ga, .slice g3 g7 gb, .slice g4 g8 gc] 32)) V4.heap.size (.agg #[.slice u1 P.length q1, .slice u2 S.length q2]) P S) := XO.out.below (bel_new _ _)
    replace BX : Hid (DB 37 (w7.alloc (.cells #[.bool gl, .slice g1 g5 g9, .slice g2 g6 ga, .slice g3 g7 gb, .slice g4 g8 gc] 32)) w5.heap.size (.slice u1 P.length q1) (.slice u2 S.length q2)) := BX.out.below (bel_new _ _)
    clear tg b7 c0 c1
    obtain ⟨kBG0, kBG1, kBG2, kBG3, kBG4⟩ := BG.out.cell
    obtain ⟨kBW0, kBW1, kBW2, kBW3, kBW4⟩ := BW.out.cell
    have hne : (bb != bb) = false := by cases bb <;> rfl
    go_wp2_with fail
    have s8 : (w7.alloc (.cells #[.bool gl, .slice g1 g5 g9, .slice g2 g6 ga, .slice g3 g7 gb, .slice g4 g8 gc] 32)).heap.size = w7.heap.size + 1 := by simp
    generalize (w7.alloc (.cells #[.bool gl, .slice g1 g5 g9, .slice g2 g6 ga, .slice g3 g7 gb, .slice g4 g8 gc] 32)) = V8 at *
    refine Calls.mono (eqTree_any 7 (TV.mk gl (.slice g1 g5 g9) (.slice g2 g6 ga) (.slice g3 g7 gb) (.slice g4 g8 gc)) (TV.mk al (.slice a1 a5 a9) (.slice a2 a6 aa) (.slice a3 a7 ab) (.slice a4 a8 ac)) T _ TG.out.treeAt TW.out.treeAt) ?_
    rintro e w9 ⟨rfl, bq⟩
    replace SB : Hid (Below w.heap.size w w9) := Below.and SB.out bq
    replace HE : Hid (ErrIs ea w9) := HE.out.below bq
    replace B0 : Hid (DB 25 w9 w.heap.size vp vs) := B0.out.below bq
    replace TW : Hid (TreeD 7 w9 (Zone w2.heap.size w3.heap.size) (TV.mk al (.slice a1 a5 a9) (.slice a2 a6 aa) (.slice a3 a7 ab) (.slice a4 a8 ac)) T) := TW.out.below bq
    replace BW : Hid (BoxIs w9 w3.heap.size (.bool al) (.slice a1 a5 a9) (.slice a2 a6 aa) (.slice a3 a7 ab) (.slice a4 a8 ac)) := BW.out.chg (Chg.of_below (F := fun _ => False) bq) id
    replace XO : Hid (DiskOwn w9 V4.heap.size (.agg #[.slice u1 P.length q1, .slice u2 S.length q2]) P S) := XO.out.below bq
    replace BX : Hid (DB 37 w9 w5.heap.size (.slice u1 P.length q1) (.slice u2 S.length q2)) := BX.out.below bq
    replace TG : Hid (TreeD 7 w9 (Zone V6.heap.size w7.heap.size) (TV.mk gl (.slice g1 g5 g9) (.slice g2 g6 ga) (.slice g3 g7 gb) (.slice g4 g8 gc)) T) := TG.out.below bq
    replace BG : Hid (BoxIs w9 w7.heap.size (.bool gl) (.slice g1 g5 g9) (.slice g2 g6 ga) (.slice g3 g7 gb) (.slice g4 g8 gc)) := BG.out.chg (Chg.of_below (F := fun _ => False) bq) id
    clear bq
    clear kBG0 kBG1 kBG2 kBG3 kBG4 kBW0 kBW1 kBW2 kBW3 kBW4
    go_wp2_with fail
    have KEEP : Hid (∀ u, Below w9.heap.size w9 u → (fun u => u.cell? ⟨w.heap.size, 0, none⟩ = some vp ∧ u.cell? ⟨w.heap.size, 1, none⟩ = some vs ∧ u.cell? ⟨w5.heap.size, 0, none⟩ = some (.slice u1 P.length q1) ∧ u.cell? ⟨w5.heap.size, 1, none⟩ = some (.slice u2 S.length q2)) u) := fun u hu => ⟨(B0.out.below hu).cells.1, (B0.out.below hu).cells.2.1, (BX.out.below hu).cells.1, (BX.out.below hu).cells.2.1⟩
    have RL : Hid (Below w9.heap.size w9 w9.drew) := (Below.refl _ _).drew
    refine wp_region_held_drew (S := (fun u => u.cell? ⟨w.heap.size, 0, none⟩ = some vp ∧ u.cell? ⟨w.heap.size, 1, none⟩ = some vs ∧ u.cell? ⟨w5.heap.size, 0, none⟩ = some (.slice u1 P.length q1) ∧ u.cell? ⟨w5.heap.size, 1, none⟩ = some (.slice u2 S.length q2))) (by kernel_rfl) (KEEP.out _ RL.out) (fun hH => ?_)
    refine wpAnyH_take (i := 0) (oi := ⟨_, _, _, _, _, _⟩) (v := ?_) rfl (by kernel_rfl) (by kernel_rfl) (by kernel_rfl) (fun _ _ _ h => h) (Or.inl ⟨by rfl, ?_⟩) (by assumption) ?_
    rotate_left
    · ((intro w hSw; (try dsimp only at hSw); go_simp); (try with_reducible rfl))
    try simp only [Act.put, List.setIfInBounds_toArray, List.set_cons_zero, List.set_cons_succ]
    refine wpAnyH_take (i := 1) (oi := ⟨_, _, _, _, _, _⟩) (v := ?_) rfl (by kernel_rfl) (by kernel_rfl) (by kernel_rfl) (fun _ _ _ h => h) (Or.inl ⟨by rfl, ?_⟩) (by assumption) ?_
    rotate_left
    · ((intro w hSw; (try dsimp only at hSw); go_simp); (try with_reducible rfl))
    try simp only [Act.put, List.setIfInBounds_toArray, List.set_cons_zero, List.set_cons_succ]
    refine wpAnyH_ready (rs := [2]) (by kernel_rfl) (by simp) ?_
    refine AllReadyH.cons (o := ⟨_, _, _, _, _, _⟩) rfl (fun K hK => ?_) AllReadyH.nil
    refine (if_pos (show Region.wanted _ _ = true by kernel_rfl)).mpr ?_
    refine call_by 7 [.tmp 46] #[25] rfl run_toDisk [.agg #[vp, vs]] rfl (TO.out _ (Below.and SB.out RL.out)) ?_
    rintro e y1 ⟨xe, rfl, oe, be⟩
    replace RL : Hid (Below w9.heap.size w9 y1) := Below.and RL.out be
    have OE : Hid (DiskOwn y1 _ xe P S) := oe
    clear be oe
    refine ⟨_, rfl, ?_⟩
    refine hK.out _ _ (KEEP.out _ RL.out) (fun hH2 => ?_)
    clear hK K hH
    have hH := hH2
    clear hH2
    try simp only [Act.put, List.setIfInBounds_toArray, List.set_cons_zero, List.set_cons_succ]
    refine wpAnyH_ready (rs := [3]) (by kernel_rfl) (by simp) ?_
    refine AllReadyH.cons (o := ⟨_, _, _, _, _, _⟩) rfl (fun K hK => ?_) AllReadyH.nil
    refine (if_pos (show Region.wanted _ _ = true by kernel_rfl)).mpr ?_
    refine call_by 10 [.tmp 45, .tmp 47] #[37, 37] rfl run_eqDisk [(.agg #[.slice u1 P.length q1, .slice u2 S.length q2]), xe] rfl (eqDisk_any (.agg #[.slice u1 P.length q1, .slice u2 S.length q2]) xe P P S S _ (XO.out.below RL.out).row OE.out.row) ?_
    rintro e y2 ⟨rfl, be⟩
    rw [show (decide (P = P) && decide (S = S)) = true by simp]
    replace RL : Hid (Below w9.heap.size w9 y2) := Below.and RL.out be
    clear be
    refine ⟨_, rfl, ?_⟩
    refine hK.out _ _ (KEEP.out _ RL.out) (fun hH2 => ?_)
    clear hK K hH
    have hH := hH2
    clear hH2
    try simp only [Act.put, List.setIfInBounds_toArray, List.set_cons_zero, List.set_cons_succ]
    refine wpAnyH_take (i := 4) (oi := ⟨_, _, _, _, _, _⟩) (v := ?_) rfl (by kernel_rfl) (by kernel_rfl) (by kernel_rfl) (fun _ _ _ h => h) (Or.inl ⟨by rfl, ?_⟩) (by assumption) ?_
    rotate_left
    · ((intro w hSw; (try dsimp only at hSw); go_simp); (try with_reducible rfl))
    try simp only [Act.put, List.setIfInBounds_toArray, List.set_cons_zero, List.set_cons_succ]
    refine wpAnyH_done (by kernel_rfl) ?_ _
    clear hH OE KEEP
    replace SB : Hid (Below w.heap.size w y2) := Below.and SB.out RL.out
    replace HE : Hid (ErrIs ea y2) := HE.out.below RL.out
    replace B0 : Hid (DB 25 y2 w.heap.size vp vs) := B0.out.below RL.out
    replace TW : Hid (TreeD 7 y2 (Zone w2.heap.size w3.heap.size) (TV.mk al (.slice a1 a5 a9) (.slice a2 a6 aa) (.slice a3 a7 ab) (.slice a4 a8 ac)) T) := TW.out.below RL.out
    replace BW : Hid (BoxIs y2 w3.heap.size (.bool al) (.slice a1 a5 a9) (.slice a2 a6 aa) (.slice a3 a7 ab) (.slice a4 a8 ac)) := BW.out.chg (Chg.of_below (F := fun _ => False) RL.out) id
    replace XO : Hid (DiskOwn y2 V4.heap.size (.agg #[.slice u1 P.length q1, .slice u2 S.length q2]) P S) := XO.out.below RL.out
    replace BX : Hid (DB 37 y2 w5.heap.size (.slice u1 P.length q1) (.slice u2 S.length q2)) := BX.out.below RL.out
    replace TG : Hid (TreeD 7 y2 (Zone V6.heap.size w7.heap.size) (TV.mk gl (.slice g1 g5 g9) (.slice g2 g6 ga) (.slice g3 g7 gb) (.slice g4 g8 gc)) T) := TG.out.below RL.out
    replace BG : Hid (BoxIs y2 w7.heap.size (.bool gl) (.slice g1 g5 g9) (.slice g2 g6 ga) (.slice g3 g7 gb) (.slice g4 g8 gc)) := BG.out.chg (Chg.of_below (F := fun _ => False) RL.out) id
    clear RL
    generalize y2 = w10 at *
    obtain ⟨c0, c1, _⟩ := BX.out.cells
    go_wp2_with fail
    refine Calls.mono (markDisk_any (.agg #[.slice u1 P.length q1, .slice u2 S.length q2]) P S 1 w10 (XO.out.mono (Nat.zero_le _)) hPl hSl (by omega) (by omega)) ?_
    rintro e w11 ⟨rfl, om, cm⟩
    clear c0 c1
    replace SB : Hid (Below w.heap.size w w11) := SB.out.trans (cm.below (B := w.heap.size) (fun g _ hg => by have := (XL.out g hg).1; omega) SB.out.size)
    replace HE : Hid (ErrIs ea w11) := HE.out.kept cm (fun h => by have := (XL.out 0 h).1; omega)
    replace B0 : Hid (DB 25 w11 w.heap.size vp vs) := B0.out.chg cm (fun h => by have := (XL.out _ h).1; omega)
    replace TW : Hid (TreeD 7 w11 (Zone w2.heap.size w3.heap.size) (TV.mk al (.slice a1 a5 a9) (.slice a2 a6 aa) (.slice a3 a7 ab) (.slice a4 a8 ac)) T) := TW.out.chg cm (fun g hg h => by have := (XL.out g h).1; have := hg.2; omega)
    replace BW : Hid (BoxIs w11 w3.heap.size (.bool al) (.slice a1 a5 a9) (.slice a2 a6 aa) (.slice a3 a7 ab) (.slice a4 a8 ac)) := BW.out.chg cm (fun h => by have := (XL.out _ h).1; omega)
    replace BX : Hid (DB 37 w11 w5.heap.size (.slice u1 P.length q1) (.slice u2 S.length q2)) := BX.out.chg cm (fun h => by have := (XL.out _ h).2; omega)
    replace TG : Hid (TreeD 7 w11 (Zone V6.heap.size w7.heap.size) (TV.mk gl (.slice g1 g5 g9) (.slice g2 g6 ga) (.slice g3 g7 gb) (.slice g4 g8 gc)) T) := TG.out.chg cm (fun g hg h => by have := (XL.out g h).2; have := hg.1; omega)
    replace BG : Hid (BoxIs w11 w7.heap.size (.bool gl) (.slice g1 g5 g9) (.slice g2 g6 ga) (.slice g3 g7 gb) (.slice g4 g8 gc)) := BG.out.chg cm (fun h => by have := (XL.out _ h).2; omega)
    clear om cm XO
    obtain ⟨kBG0, kBG1, kBG2, kBG3, kBG4⟩ := BG.out.cell
    obtain ⟨kBW0, kBW1, kBW2, kBW3, kBW4⟩ := BW.out.cell
    have hkk : ¬ ((1 : Int) + (P.length : Int) + 2 * (S.length : Int) < 0) := by omega
    go_wp2_with fail
    refine Calls.mono (eqTree_any 7 (TV.mk gl (.slice g1 g5 g9) (.slice g2 g6 ga) (.slice g3 g7 gb) (.slice g4 g8 gc)) (TV.mk al (.slice a1 a5 a9) (.slice a2 a6 aa) (.slice a3 a7 ab) (.slice a4 a8 ac)) T _ TG.out.treeAt TW.out.treeAt) ?_
    rintro e w12 ⟨rfl, bq⟩
    replace SB : Hid (Below w.heap.size w w12) := Below.and SB.out bq
    replace HE : Hid (ErrIs ea w12) := HE.out.below bq
    replace B0 : Hid (DB 25 w12 w.heap.size vp vs) := B0.out.below bq
    replace TW : Hid (TreeD 7 w12 (Zone w2.heap.size w3.heap.size) (TV.mk al (.slice a1 a5 a9) (.slice a2 a6 aa) (.slice a3 a7 ab) (.slice a4 a8 ac)) T) := TW.out.below bq
    replace BW : Hid (BoxIs w12 w3.heap.size (.bool al) (.slice a1 a5 a9) (.slice a2 a6 aa) (.slice a3 a7 ab) (.slice a4 a8 ac)) := BW.out.chg (Chg.of_below (F := fun _ => False) bq) id
    replace BX : Hid (DB 37 w12 w5.heap.size (.slice u1 P.length q1) (.slice u2 S.length q2)) := BX.out.below bq
    replace TG : Hid (TreeD 7 w12 (Zone V6.heap.size w7.heap.size) (TV.mk gl (.slice g1 g5 g9) (.slice g2 g6 ga) (.slice g3 g7 gb) (.slice g4 g8 gc)) T) := TG.out.below bq
    replace BG : Hid (BoxIs w12 w7.heap.size (.bool gl) (.slice g1 g5 g9) (.slice g2 g6 ga) (.slice g3 g7 gb) (.slice g4 g8 gc)) := BG.out.chg (Chg.of_below (F := fun _ => False) bq) id
    clear bq
    clear kBG0 kBG1 kBG2 kBG3 kBG4 kBW0 kBW1 kBW2 kBW3 kBW4
    obtain ⟨kBG0, kBG1, kBG2, kBG3, kBG4⟩ := BG.out.cell
    go_wp2_with fail
    refine Calls.mono (markTree_d 7 (TV.mk gl (.slice g1 g5 g9) (.slice g2 g6 ga) (.slice g3 g7 gb) (.slice g4 g8 gc)) T (Zone V6.heap.size w7.heap.size) 1 w12 TG.out (fun g hg => by have := hg.2; have := BG.out.lt; omega) (by omega) (by omega)) ?_
    rintro e w13 ⟨rfl, tm13, cm⟩
    clear kBG0 kBG1 kBG2 kBG3 kBG4
    replace SB : Hid (Below w.heap.size w w13) := SB.out.trans (cm.below (B := w.heap.size) (fun g _ hg => by have := hg.1; omega) SB.out.size)
    replace HE : Hid (ErrIs ea w13) := HE.out.kept cm (fun h => by have := h.1; omega)
    replace B0 : Hid (DB 25 w13 w.heap.size vp vs) := B0.out.chg cm (fun h => by have := h.1; omega)
    replace TW : Hid (TreeD 7 w13 (Zone w2.heap.size w3.heap.size) (TV.mk al (.slice a1 a5 a9) (.slice a2 a6 aa) (.slice a3 a7 ab) (.slice a4 a8 ac)) T) := TW.out.chg cm (fun g hg h => by have := h.1; have := hg.2; omega)
    replace BW : Hid (BoxIs w13 w3.heap.size (.bool al) (.slice a1 a5 a9) (.slice a2 a6 aa) (.slice a3 a7 ab) (.slice a4 a8 ac)) := BW.out.chg cm (fun h => by have := h.1; omega)
    replace BX : Hid (DB 37 w13 w5.heap.size (.slice u1 P.length q1) (.slice u2 S.length q2)) := BX.out.chg cm (fun h => by have := h.1; omega)
    replace BG : Hid (BoxIs w13 w7.heap.size (.bool gl) (.slice g1 g5 g9) (.slice g2 g6 ga) (.slice g3 g7 gb) (.slice g4 g8 gc)) := BG.out.chg cm (fun h => by have := h.2; omega)
    replace TG : Hid (TreeD 7 w13 (Zone V6.heap.size w7.heap.size) (TV.mk gl (.slice g1 g5 g9) (.slice g2 g6 ga) (.slice g3 g7 gb) (.slice g4 g8 gc)) (markTr 7 1 T)) := tm13
    clear tm13 cm
    have hmk : ¬ ((1 : Int) + ((mkT 7 T : Nat) : Int) < 0) := by omega
    have hmm : ((1 : Int) + ((mkT 7 T : Nat) : Int) != (1 : Int) + ((mkT 7 T : Nat) : Int)) = false := by simp
    have hmk2 : (1 : Int) + ((mkT 7 T : Nat) : Int) ≤ 4194304 := by omega
    obtain ⟨kBG0, kBG1, kBG2, kBG3, kBG4⟩ := BG.out.cell
    go_wp2_with fail
    refine Calls.mono (heldTree_m 7 (TV.mk gl (.slice g1 g5 g9) (.slice g2 g6 ga) (.slice g3 g7 gb) (.slice g4 g8 gc)) T 1 w13 TG.out.treeAt (by omega) (by omega)) ?_
    rintro e w14 ⟨rfl, bq⟩
    clear kBG0 kBG1 kBG2 kBG3 kBG4
    replace SB : Hid (Below w.heap.size w w14) := Below.and SB.out bq
    replace HE : Hid (ErrIs ea w14) := HE.out.below bq
    replace B0 : Hid (DB 25 w14 w.heap.size vp vs) := B0.out.below bq
    replace TW : Hid (TreeD 7 w14 (Zone w2.heap.size w3.heap.size) (TV.mk al (.slice a1 a5 a9) (.slice a2 a6 aa) (.slice a3 a7 ab) (.slice a4 a8 ac)) T) := TW.out.below bq
    replace BW : Hid (BoxIs w14 w3.heap.size (.bool al) (.slice a1 a5 a9) (.slice a2 a6 aa) (.slice a3 a7 ab) (.slice a4 a8 ac)) := BW.out.chg (Chg.of_below (F := fun _ => False) bq) id
    replace BX : Hid (DB 37 w14 w5.heap.size (.slice u1 P.length q1) (.slice u2 S.length q2)) := BX.out.below bq
    replace BG : Hid (BoxIs w14 w7.heap.size (.bool gl) (.slice g1 g5 g9) (.slice g2 g6 ga) (.slice g3 g7 gb) (.slice g4 g8 gc)) := BG.out.chg (Chg.of_below (F := fun _ => False) bq) id
    replace TG : Hid (TreeD 7 w14 (Zone V6.heap.size w7.heap.size) (TV.mk gl (.slice g1 g5 g9) (.slice g2 g6 ga) (.slice g3 g7 gb) (.slice g4 g8 gc)) (markTr 7 1 T)) := TG.out.below bq
    clear bq
    obtain ⟨c0, c1, _⟩ := B0.out.cells
    go_wp2_with fail
    refine (TO.out _ SB.out).mono ?_
    rintro e w15 ⟨xf, rfl, of, bf⟩
    replace SB : Hid (Below w.heap.size w w15) := Below.and SB.out bf
    replace HE : Hid (ErrIs ea w15) := HE.out.below bf
    replace B0 : Hid (DB 25 w15 w.heap.size vp vs) := B0.out.below bf
    replace TW : Hid (TreeD 7 w15 (Zone w2.heap.size w3.heap.size) (TV.mk al (.slice a1 a5 a9) (.slice a2 a6 aa) (.slice a3 a7 ab) (.slice a4 a8 ac)) T) := TW.out.below bf
    replace BW : Hid (BoxIs w15 w3.heap.size (.bool al) (.slice a1 a5 a9) (.slice a2 a6 aa) (.slice a3 a7 ab) (.slice a4 a8 ac)) := BW.out.chg (Chg.of_below (F := fun _ => False) bf) id
    replace BX : Hid (DB 37 w15 w5.heap.size (.slice u1 P.length q1) (.slice u2 S.length q2)) := BX.out.below bf
    replace BG : Hid (BoxIs w15 w7.heap.size (.bool gl) (.slice g1 g5 g9) (.slice g2 g6 ga) (.slice g3 g7 gb) (.slice g4 g8 gc)) := BG.out.chg (Chg.of_below (F := fun _ => False) bf) id
    replace TG : Hid (TreeD 7 w15 (Zone V6.heap.size w7.heap.size) (TV.mk gl (.slice g1 g5 g9) (.slice g2 g6 ga) (.slice g3 g7 gb) (.slice g4 g8 gc)) (markTr 7 1 T)) := TG.out.below bf
    clear bf c0 c1
    obtain ⟨f1, f2, rfl, r1, _⟩ := of.row
    go_wp2_with fail
    refine (implReadTree_any ea f1 f2 P (fun s hs => (HZ.out s hs).1) root w15 r1 HE.out).mono ?_
    rintro e w16 ⟨hn, b16⟩
    obtain ⟨x, hx, th⟩ := hn.both
    rw [HT.out] at th
    rw [HBB.out] at hx
    subst hx
    clear hn r1 of
    obtain ⟨ml, mp, mc, mk, mb⟩ := x
    obtain ⟨⟨m1, m5, m9, hs1⟩, ⟨m2, m6, ma, hs2⟩, ⟨m3, m7, mb, hs3⟩, ⟨m4, m8, mc, hs4⟩, _⟩ := TreeD.slices th
    simp only at hs1 hs2 hs3 hs4
    subst hs1 hs2 hs3 hs4
    replace SB : Hid (Below w.heap.size w w16) := Below.and SB.out b16
    replace HE : Hid (ErrIs ea w16) := HE.out.below b16
    replace B0 : Hid (DB 25 w16 w.heap.size vp vs) := B0.out.below b16
    replace TW : Hid (TreeD 7 w16 (Zone w2.heap.size w3.heap.size) (TV.mk al (.slice a1 a5 a9) (.slice a2 a6 aa) (.slice a3 a7 ab) (.slice a4 a8 ac)) T) := TW.out.below b16
    replace BW : Hid (BoxIs w16 w3.heap.size (.bool al) (.slice a1 a5 a9) (.slice a2 a6 aa) (.slice a3 a7 ab) (.slice a4 a8 ac)) := BW.out.chg (Chg.of_below (F := fun _ => False) b16) id
    replace BX : Hid (DB 37 w16 w5.heap.size (.slice u1 P.length q1) (.slice u2 S.length q2)) := BX.out.below b16
    replace BG : Hid (BoxIs w16 w7.heap.size (.bool gl) (.slice g1 g5 g9) (.slice g2 g6 ga) (.slice g3 g7 gb) (.slice g4 g8 gc)) := BG.out.chg (Chg.of_below (F := fun _ => False) b16) id
    replace TG : Hid (TreeD 7 w16 (Zone V6.heap.size w7.heap.size) (TV.mk gl (.slice g1 g5 g9) (.slice g2 g6 ga) (.slice g3 g7 gb) (.slice g4 g8 gc)) (markTr 7 1 T)) := TG.out.below b16
    clear b16
    have TH : Hid (TreeD 7 (w16.alloc (.cells #[.bool ml, .slice m1 m5 m9, .slice m2 m6 ma, .slice m3 m7 mb, .slice m4 m8 mc] 32)) (Zone w15.heap.size w16.heap.size) (TV.mk ml (.slice m1 m5 m9) (.slice m2 m6 ma) (.slice m3 m7 mb) (.slice m4 m8 mc)) T) := th.below (bel_new _ _)
    have BH : Hid (BoxIs (w16.alloc (.cells #[.bool ml, .slice m1 m5 m9, .slice m2 m6 ma, .slice m3 m7 mb, .slice m4 m8 mc] 32)) w16.heap.size (.bool ml) (.slice m1 m5 m9) (.slice m2 m6 ma) (.slice m3 m7 mb) (.slice m4 m8 mc)) := heap_alloc_new _ _
    replace SB : Hid (Below w.heap.size w (w16.alloc (.cells #[.bool ml, .slice m1 m5 m9, .slice m2 m6 ma, .slice m3 m7 mb, .slice m4 m8 mc] 32))) := Below.and SB.out (bel_new _ _)
    replace HE : Hid (ErrIs ea (w16.alloc (.cells #[.bool ml, .slice m1 m5 m9, .slice m2 m6 ma, .slice m3 m7 mb, .slice m4 m8 mc] 32))) := HE.out.below (bel_new _ _)
    replace B0 : Hid (DB 25 (w16.alloc (.cells #[.bool ml, .slice m1 m5 m9, .slice m2 m6 ma, .slice m3 m7 mb, .slice m4 m8 mc] 32)) w.heap.size vp vs) := B0.out.below (bel_new _ _)
    replace TW : Hid (TreeD 7 (w16.alloc (.cells #[.bool ml, .slice m1 m5 m9, .slice m2 m6 ma, .slice m3 m7 mb, .slice m4 m8 mc] 32)) (Zone w2.heap.size w3.heap.size) (TV.mk al (.slice a1 a5 a9) (.slice a2 a6 aa) (.slice a3 a7 ab) (.slice a4 a8 ac)) T) := TW.out.below (bel_new _ _)
    replace BW : Hid (BoxIs (w16.alloc (.cells #[.bool ml, .slice m1 m5 m9, .slice m2 m6 ma, .slice m3 m7 mb, .slice m4 m8 mc] 32)) w3.heap.size (.bool al) (.slice a1 a5 a9) (.slice a2 a6 aa) (.slice a3 a7 ab) (.slice a4 a8 ac)) := BW.out.chg (Chg.of_below (F := fun _ => False) (bel_new _ _)) id
    replace BX : Hid (DB 37 (w16.alloc (.cells #[.bool ml, .slice m1 m5 m9, .slice m2 m6 ma, .slice m3 m7 mb, .slice m4 m8 mc] 32)) w5.heap.size (.slice u1 P.length q1) (.slice u2 S.length q2)) := BX.out.below (bel_new _ _)
    replace BG : Hid (BoxIs (w16.alloc (.cells #[.bool ml, .slice m1 m5 m9, .slice m2 m6 ma, .slice m3 m7 mb, .slice m4 m8 mc] 32)) w7.heap.size (.bool gl) (.slice g1 g5 g9) (.slice g2 g6 ga) (.slice g3 g7 gb) (.slice g4 g8 gc)) := BG.out.chg (Chg.of_below (F := fun _ => False) (bel_new _ _)) id
    replace TG : Hid (TreeD 7 (w16.alloc (.cells #[.bool ml, .slice m1 m5 m9, .slice m2 m6 ma, .slice m3 m7 mb, .slice m4 m8 mc] 32)) (Zone V6.heap.size w7.heap.size) (TV.mk gl (.slice g1 g5 g9) (.slice g2 g6 ga) (.slice g3 g7 gb) (.slice g4 g8 gc)) (markTr 7 1 T)) := TG.out.below (bel_new _ _)
    clear th
    obtain ⟨kBH0, kBH1, kBH2, kBH3, kBH4⟩ := BH.out.cell
    obtain ⟨kBW0, kBW1, kBW2, kBW3, kBW4⟩ := BW.out.cell
    go_wp2_with fail
    generalize (w16.alloc (.cells #[.bool ml, .slice m1 m5 m9, .slice m2 m6 ma, .slice m3 m7 mb, .slice m4 m8 mc] 32)) = V17 at *
    refine Calls.mono (eqTree_any 7 (TV.mk ml (.slice m1 m5 m9) (.slice m2 m6 ma) (.slice m3 m7 mb) (.slice m4 m8 mc)) (TV.mk al (.slice a1 a5 a9) (.slice a2 a6 aa) (.slice a3 a7 ab) (.slice a4 a8 ac)) T _ TH.out.treeAt TW.out.treeAt) ?_
    rintro e w18 ⟨rfl, bq⟩
    replace SB : Hid (Below w.heap.size w w18) := Below.and SB.out bq
    replace HE : Hid (ErrIs ea w18) := HE.out.below bq
    replace B0 : Hid (DB 25 w18 w.heap.size vp vs) := B0.out.below bq
    replace TW : Hid (TreeD 7 w18 (Zone w2.heap.size w3.heap.size) (TV.mk al (.slice a1 a5 a9) (.slice a2 a6 aa) (.slice a3 a7 ab) (.slice a4 a8 ac)) T) := TW.out.below bq
    replace BW : Hid (BoxIs w18 w3.heap.size (.bool al) (.slice a1 a5 a9) (.slice a2 a6 aa) (.slice a3 a7 ab) (.slice a4 a8 ac)) := BW.out.chg (Chg.of_below (F := fun _ => False) bq) id
    replace BX : Hid (DB 37 w18 w5.heap.size (.slice u1 P.length q1) (.slice u2 S.length q2)) := BX.out.below bq
    replace BG : Hid (BoxIs w18 w7.heap.size (.bool gl) (.slice g1 g5 g9) (.slice g2 g6 ga) (.slice g3 g7 gb) (.slice g4 g8 gc)) := BG.out.chg (Chg.of_below (F := fun _ => False) bq) id
    replace TG : Hid (TreeD 7 w18 (Zone V6.heap.size w7.heap.size) (TV.mk gl (.slice g1 g5 g9) (.slice g2 g6 ga) (.slice g3 g7 gb) (.slice g4 g8 gc)) (markTr 7 1 T)) := TG.out.below bq
    clear bq
    clear kBH0 kBH1 kBH2 kBH3 kBH4 kBW0 kBW1 kBW2 kBW3 kBW4
    clear TH BH
    obtain ⟨kBG0, kBG1, kBG2, kBG3, kBG4⟩ := BG.out.cell
    go_wp2_with fail
    refine Calls.mono (heldTree_m 7 (TV.mk gl (.slice g1 g5 g9) (.slice g2 g6 ga) (.slice g3 g7 gb) (.slice g4 g8 gc)) T 1 w18 TG.out.treeAt (by omega) (by omega)) ?_
    rintro e w19 ⟨rfl, bq⟩
    clear kBG0 kBG1 kBG2 kBG3 kBG4
    replace SB : Hid (Below w.heap.size w w19) := Below.and SB.out bq
    replace HE : Hid (ErrIs ea w19) := HE.out.below bq
    replace B0 : Hid (DB 25 w19 w.heap.size vp vs) := B0.out.below bq
    replace TW : Hid (TreeD 7 w19 (Zone w2.heap.size w3.heap.size) (TV.mk al (.slice a1 a5 a9) (.slice a2 a6 aa) (.slice a3 a7 ab) (.slice a4 a8 ac)) T) := TW.out.below bq
    replace BW : Hid (BoxIs w19 w3.heap.size (.bool al) (.slice a1 a5 a9) (.slice a2 a6 aa) (.slice a3 a7 ab) (.slice a4 a8 ac)) := BW.out.chg (Chg.of_below (F := fun _ => False) bq) id
    replace BX : Hid (DB 37 w19 w5.heap.size (.slice u1 P.length q1) (.slice u2 S.length q2)) := BX.out.below bq
    replace BG : Hid (BoxIs w19 w7.heap.size (.bool gl) (.slice g1 g5 g9) (.slice g2 g6 ga) (.slice g3 g7 gb) (.slice g4 g8 gc)) := BG.out.chg (Chg.of_below (F := fun _ => False) bq) id
    replace TG : Hid (TreeD 7 w19 (Zone V6.heap.size w7.heap.size) (TV.mk gl (.slice g1 g5 g9) (.slice g2 g6 ga) (.slice g3 g7 gb) (.slice g4 g8 gc)) (markTr 7 1 T)) := TG.out.below bq
    clear bq
    go_wp2
    go_ret
    exact ⟨rfl, SB.out⟩
  · have hneg : szD P S 1048576 < 0 := by omega
    generalize szD P S 1048576 = left at *
    clear HR he
    go_enter Tryd.func3, Tryd.ntmps3
    go_wp2_with fail
    generalize w.alloc (.cells #[vp, vs] 25) = W at *
    refine (SZ.out _ SB.out).mono ?_
    rintro e w1 ⟨rfl, b1⟩
    go_wp2
    go_ret
    exact ⟨rfl, Below.and SB.out b1⟩

end Go.Proofs.YtckphbmlmjlipaaDoor
