/-
  The model's l6Read: a tree read out of pages.
-/
import Derived.Test.YtckphbmlmjlipaaDoorSGetNode
import Derived.Test.YtckphbmlmjlipaaDoorTreeAtI
namespace Go.Proofs.YtckphbmlmjlipaaDoor
open Go.RowKit

/-- what l6Read answers at most d deep -/
def RdD (base d : Nat) (g : Option Tr) (e : Ending) (w' : World) : Prop := match g with
  | none => e = .returned (.tuple #[treeZ, .bool false])
  | some T => ∃ x : TV, e = .returned (.tuple #[x.val, .bool true]) ∧ TreeD d w' (Zone base w'.heap.size) x T
theorem RdD.none {base d : Nat} {g : Option Tr} {w' : World} (h : g = .none) : RdD base d g (.returned (.tuple #[treeZ, .bool false])) w' := by subst h; rfl

/-- a leaf whose lists are its own -/
theorem TreeD.leafS {w : World} {base d : Nat} {vp vc vk vb : Value} {l : List (Int × Int)} (hp : OwnE w base 80 2 vp l.length (flatP l)) (hc : OwnE w base 3 1 vc 0 []) (hk : OwnE w base 32 5 vk 0 []) (hb : OwnE w base 83 3 vb 0 []) :
    TreeD (d + 1) w (Zone base w.heap.size) ⟨true, vp, vc, vk, vb⟩ ⟨true, l, [], [], []⟩ := by
  refine ⟨rfl, hp.mono (Nat.zero_le _), hc.mono (Nat.zero_le _), hb.mono (Nat.zero_le _), fun g hg => ?_, [], fun _ _ => False, rfl, hk.mono (Nat.zero_le _), fun i hi => by simp at hi, fun i g hi => by simp at hi, fun i j g _ hj => by simp at hj⟩
  rcases hg with h | h | h | h
  · exact hp.lt g h
  · exact hc.lt g h
  · exact hb.lt g h
  · exact hk.lt g h

theorem TreesD.forkS {d : Nat} {w : World} {base low N M q : Nat} {vp vc vb : Value} {xs : List TV} {ts : List Tr} {cs : List Int} {bf : ML}
    (h : TreesD d w base xs ts) (hp : OwnE w N 80 2 vp 0 []) (hc : OwnE w N 3 1 vc cs.length (flatI cs)) (hb : OwnE w N 83 3 vb bf.length (flatM bf)) (hk : OwnE w N 32 5 (.slice (some ⟨M, 0, none⟩) xs.length q) xs.length (flatT xs))
    (hN : low ≤ N) (hNb : low ≤ base) (hM : M < base) (hpl : ∀ g, wrB vp g → g < base) (hcl : ∀ g, wrB vc g → g < base) (hbl : ∀ g, wrB vb g → g < base) (hs : base ≤ w.heap.size) :
    TreeD (d + 1) w (Zone low w.heap.size) ⟨false, vp, vc, .slice (some ⟨M, 0, none⟩) xs.length q, vb⟩ ⟨false, [], cs, ts, bf⟩ := by
  obtain ⟨h1, p, p0, p1, p2, p3⟩ := h
  have own : ∀ g, wrB vp g ∨ wrB vc g ∨ wrB vb g ∨ wrB (.slice (some ⟨M, 0, none⟩) xs.length q) g → low ≤ g ∧ g < base := by
    intro g hg
    rcases hg with h' | h' | h' | h'
    · exact ⟨Nat.le_trans hN (hp.lt g h').1, hpl g h'⟩
    · exact ⟨Nat.le_trans hN (hc.lt g h').1, hcl g h'⟩
    · exact ⟨Nat.le_trans hN (hb.lt g h').1, hbl g h'⟩
    · have := (hk.lt g h').1
      obtain ⟨_, _, e, _⟩ := h'
      simp at e
      omega
  refine ⟨rfl, hp.mono (Nat.zero_le _), hc.mono (Nat.zero_le _), hb.mono (Nat.zero_le _), fun g hg => ?_, xs, fun i => Zone (p i) (p (i + 1)), h1, hk.mono (Nat.zero_le _), p3, fun i g hi hg => ⟨?_, fun e => ?_⟩, fun i j g hij hj hg hg' => ?_⟩
  · have := own g hg
    exact ⟨this.1, by omega⟩
  · have a1 := TreesD.up p1 i 0 (by omega) (by omega)
    have a2 := TreesD.up p1 xs.length (i + 1) (by omega) (by omega)
    obtain ⟨g1, g2⟩ := hg
    exact ⟨by omega, by omega⟩
  · have := own g e
    have a1 := TreesD.up p1 i 0 (by omega) (by omega)
    have := hg.1
    omega
  · have a1 := TreesD.up p1 j (i + 1) (by omega) (by omega)
    have := hg.2
    have := hg'.1
    omega

theorem slot_setQ {w : World} {N M n q j : Nat} {xs : List TV} {x : TV} (h : w.ownsRow N 32 5 (.slice (some ⟨M, 0, .none⟩) n q) n (flatT (xs ++ List.replicate (n - j) zeroTV))) (hj : j < n) (hx : xs.length = j) :
    (w.cell? ⟨M, j * 5, .none⟩ = some (.bool false) ∧ w.cell? ⟨M, j * 5 + 1, .none⟩ = some (.slice .none 0 0) ∧ w.cell? ⟨M, j * 5 + 2, .none⟩ = some (.slice .none 0 0) ∧ w.cell? ⟨M, j * 5 + 3, .none⟩ = some (.slice .none 0 0) ∧ w.cell? ⟨M, j * 5 + 4, .none⟩ = some (.slice .none 0 0)) ∧
      (∀ i, w.frozen? ⟨M, i, .none⟩ = false) ∧ (setT w M j x).ownsRow N 32 5 (.slice (some ⟨M, 0, .none⟩) n q) n (flatT ((xs ++ [x]) ++ List.replicate (n - (j + 1)) zeroTV)) := by
  have hl : (xs ++ List.replicate (n - j) zeroTV).length = n := by simp; omega
  have hat := flatT_at (xs ++ List.replicate (n - j) zeroTV) j (by omega)
  have ez : tvAt (xs ++ List.replicate (n - j) zeroTV) j = zeroTV := by
    simp [tvAt, List.getD, hx, show 0 < n - j by omega]
  rw [ez] at hat
  refine ⟨⟨(h.cellAt (j * 5) (by omega)).trans hat.1, (h.cellAt (j * 5 + 1) (by omega)).trans hat.2.1, (h.cellAt (j * 5 + 2) (by omega)).trans hat.2.2.1, (h.cellAt (j * 5 + 3) (by omega)).trans hat.2.2.2.1, (h.cellAt (j * 5 + 4) (by omega)).trans hat.2.2.2.2⟩, fun i => h.frozenAt i, ?_⟩
  have st := ((((((h.stored (j * 5) (.bool x.lf)).1.stored (j * 5 + 1) x.p).1.stored (j * 5 + 2) x.c).1.stored (j * 5 + 3) x.k).1.stored (j * 5 + 4) x.b)).1
  rw [flatT_set _ _ j (by omega)] at st
  have e : (xs ++ List.replicate (n - j) zeroTV).set j x = (xs ++ [x]) ++ List.replicate (n - (j + 1)) zeroTV := by
    obtain ⟨m, hm⟩ : ∃ m, n - j = m + 1 := ⟨n - j - 1, by omega⟩
    rw [hm, show n - (j + 1) = m by omega, List.replicate_succ, List.set_append_right _ _ (by omega), hx, Nat.sub_self]
    simp
  rw [e] at st
  exact st

theorem run_l6Read (args : Array Value) (w : World) : (callFunc 18 args).run Tryd.prog w = .ok (.enter 18 args) w := by go_simp

set_option maxRecDepth 100000 in
set_option maxHeartbeats 800000 in
theorem l6Read_step (vp vs : Value) (l : List ByteArray) (hz : ∀ s ∈ l, s.size ≤ maxLen ∧ s.size ≤ 1099511627776) (d : Nat) (hd8 : d ≤ 8) (a : Int) (w : World) (hr : Row w vp l.length (flatS l))
    (IH : ∀ (d' : Nat), d = d' + 1 → ∀ (a : Int) (w : World), Row w vp l.length (flatS l) → Calls Tryd.prog 18 #[.agg #[vp, vs], .int .i64 a, .int .i64 (d' : Int)] w fun e w' => RdD w.heap.size d' (readR (pgB l) d' a) e w' ∧ Below w.heap.size w w') :
    Calls Tryd.prog 18 #[.agg #[vp, vs], .int .i64 a, .int .i64 (d : Int)] w fun e w' => RdD w.heap.size d (readR (pgB l) d a) e w' ∧ Below w.heap.size w w' := by
  have hcv : ∀ (w : World) (s : ByteArray), (convert 9 71 (.string s)).run Tryd.prog w = .ok (.slice (some ⟨w.heap.size, 0, none⟩) s.size (grownCap w s.size 0 5)) (Go.Lib.bytesWorld w 5 s) := fun w s => Go.Lib.run_convert_string_bytes w _ _ 5 s rfl rfl rfl
  obtain ⟨av, bv, ov, cv, hv, hv1, hv2, hv3, hv4, hv5⟩ := id hr
  unfold maxLen at hv2
  subst hv
  have b2 : Below w.heap.size w ((w.alloc (.cells #[.slice av l.length cv, vs] 37)).alloc (.cells #[.bool false, .slice none 0 0, .slice none 0 0, .slice none 0 0, .slice none 0 0] 32)) := Below.and (bel_new _ _) (bel_new _ _)
  have n1 := row_chg (F := fun _ => False) (heap_alloc_new w (.cells #[.slice av l.length cv, vs] 37)) ((Chg.refl _ _).alloc (.cells #[.bool false, .slice none 0 0, .slice none 0 0, .slice none 0 0, .slice none 0 0] 32)) id
  have n2 : BoxIs ((w.alloc (.cells #[.slice av l.length cv, vs] 37)).alloc (.cells #[.bool false, .slice none 0 0, .slice none 0 0, .slice none 0 0, .slice none 0 0] 32)) (w.heap.size + 1) (.bool false) (.slice none 0 0) (.slice none 0 0) (.slice none 0 0) (.slice none 0 0) := by
    have := heap_alloc_new (w.alloc (.cells #[.slice av l.length cv, vs] 37)) (.cells #[.bool false, .slice none 0 0, .slice none 0 0, .slice none 0 0, .slice none 0 0] 32)
    rw [World.size_alloc] at this
    exact this
  have s2 : ((w.alloc (.cells #[.slice av l.length cv, vs] 37)).alloc (.cells #[.bool false, .slice none 0 0, .slice none 0 0, .slice none 0 0, .slice none 0 0] 32)).heap.size = w.heap.size + 2 := by simp
  generalize hW2 : (w.alloc (.cells #[.slice av l.length cv, vs] 37)).alloc (.cells #[.bool false, .slice none 0 0, .slice none 0 0, .slice none 0 0, .slice none 0 0] 32) = W2 at b2 n1 n2 s2
  have E2 : Hid ((w.alloc (.cells #[.slice av l.length cv, vs] 37)).alloc (.cells #[.bool false, .slice none 0 0, .slice none 0 0, .slice none 0 0, .slice none 0 0] 32) = W2) := hW2
  have D0 : W2.cell? ⟨w.heap.size, 0, none⟩ = some (.slice av l.length cv) := by rw [cell_of_cells n1]; rfl
  have D1 : W2.cell? ⟨w.heap.size, 1, none⟩ = some vs := by rw [cell_of_cells n1]; rfl
  obtain ⟨z0, z1, z2, z3, z4⟩ := n2.cell
  have zf := n2.live
  have HH : Hid _ := And.intro b2 (And.intro n1 n2)
  have HV : Hid _ := And.intro hv3 (And.intro hv4 hr)
  have HI : Hid _ := IH
  have ZB := Below.trans b2 (((set5_chg W2 (w.heap.size + 1) (.bool false) (.slice none 0 0) (.slice none 0 0) (.slice none 0 0) (.slice none 0 0))).below (B := w.heap.size) (fun g _ hg => by omega) (by omega))
  have ZC := (n2.set (.bool false) (.slice none 0 0) (.slice none 0 0) (.slice none 0 0) (.slice none 0 0)).cell
  unfold set5 at ZB ZC
  obtain ⟨y0, y1, y2, y3, y4⟩ := ZC
  have HZ : Hid _ := ZB
  clear hW2 b2 n1 n2 hv3 hv4 hr IH hv5 ZB
  cases d with
  | zero =>
    have h0 : ((((0 : Nat) : Int)) == 0) = true := rfl
    go_enter Tryd.func18, Tryd.ntmps18
    go_upto_region 1 with fail
    rw [E2.out]
    go_wp2
    simp [bodyPost, results, Tryd.results18, go_sem, y0, y1, y2, y3, y4]
    exact ⟨rfl, HZ.out⟩
  | succ d' =>
    obtain ⟨mo, hmo⟩ : ∃ mo : Int, mo = ((d' + 1 : Nat) : Int) := ⟨_, rfl⟩
    rw [← hmo]
    have h0 : (mo == 0) = false := by rw [beq_eq_false_iff_ne]; omega
    have HMO : Hid (mo = ((d' + 1 : Nat) : Int)) := hmo
    have hmo1 : (1 : Int) ≤ mo := by omega
    have hmo2 : mo ≤ 8 := by omega
    clear hmo
    by_cases hin : 0 ≤ a ∧ a < (l.length : Int)
    · have hin' : inB a 0 ((l.length : Int) - 1) = true := inB_true hin.1 (by omega)
      have hl1 : (0 : Int) ≤ (l.length : Int) := by omega
      have hl2 : (l.length : Int) ≤ 9223372036854775807 := by omega
      obtain ⟨k, hk0⟩ : ∃ k : Nat, a = k := ⟨a.toNat, by omega⟩
      subst hk0
      have hk : k < l.length := by omega
      have hav := HV.out.1 (by omega)
      subst hav
      have hc0 : W2.cell? ⟨bv, ov + k, none⟩ = some (.string (sOf l k)) := (HH.out.1.cell (p := ⟨bv, ov + k, none⟩) (cell_lt (HV.out.2.1 _ _ (flatS_at l k hk)))).trans (HV.out.2.1 _ _ (flatS_at l k hk))
      have hm : sOf l k ∈ l := by
        rw [show sOf l k = l[k] by simp [sOf, List.getD, hk]]
        exact List.getElem_mem hk
      have RB := row_bytes W2 5 (sOf l k) (hz _ hm).1
      have bb := bel_bytes W2 5 (sOf l k)
      have sb : (Go.Lib.bytesWorld W2 5 (sOf l k)).heap.size = w.heap.size + 3 := by rw [Go.Lib.bytesWorld_size, s2]
      have hlen : (bytesOf (sOf l k)).length ≤ 1099511627776 := by
        have := (hz _ hm).2
        simpa [bytesOf] using this
      rw [s2] at RB
      have HR : Hid _ := And.intro RB (And.intro bb (And.intro sb hlen))
      have HP : Hid ((pgB l).getD (k : Int).toNat [] = bytesOf (sOf l k)) := by show _ = _; rw [Int.toNat_natCast]; exact pgB_at l k hk
      have ha : 0 ≤ (k : Int) ∧ (k : Int) < ((pgB l).length : Int) := by rw [pgB_length]; exact hin
      clear RB bb sb hlen hm
      go_enter Tryd.func18, Tryd.ntmps18
      go_upto_region 1 with fail
      rw [E2.out]
      go_wp2_with fail
      refine (l1In_any _ _ _ _).mono ?_
      rintro e W3 ⟨rfl, rfl⟩
      rw [hin']
      have hb1 : (0 : Int) ≤ (k : Int) := by omega
      have hb2 : (k : Int) < (l.length : Int) := by omega
      go_wp2_with fail
      refine (specGetNode_own _ (bytesOf (sOf l k)) _ HR.out.1 (bytesOf_in _) HR.out.2.2.2).mono ?_
      rintro e w3 ⟨hn, hB⟩
      rw [HR.out.2.2.1] at hn
      have B3 : Below W3.heap.size W3 w3 := Below.and HR.out.2.1 hB
      have BB : Hid (Below w.heap.size w w3) := Below.and HH.out.1 B3
      have DK := row_chg HH.out.2.1 (Chg.of_below (F := fun _ => False) B3) id
      have X3 := HH.out.2.2.chg (Chg.of_below (F := fun _ => False) B3) id
      have hs3 : w.heap.size + 3 ≤ w3.heap.size := by have := hB.size; have := HR.out.2.2.1; omega
      have HX : Hid _ := And.intro DK X3
      clear z0 z1 z2 z3 z4 zf y0 y1 y2 y3 y4 D0 D1 HZ B3 hB DK X3 hc0 hb1 hb2 hcv
      cases hg : getNodeF (bytesOf (sOf l k)) with
      | none =>
        rw [hg] at hn
        obtain ⟨g, rfl⟩ := hn
        have HG : Hid (readR (pgB l) (d' + 1) (k : Int) = none) := readR_bad (by rw [HP.out]; exact hg)
        have X4 : BoxIs (w3.alloc (.cells #[.bool false, .slice none 0 0, .slice none 0 0, .slice none 0 0, .slice none 0 0] 32)) (w.heap.size + 1) (.bool false) (.slice none 0 0) (.slice none 0 0) (.slice none 0 0) (.slice none 0 0) := HX.out.2.chg (Chg.of_below (F := fun _ => False) (bel_new _ _)) id
        have B4 : Below w.heap.size w (w3.alloc (.cells #[.bool false, .slice none 0 0, .slice none 0 0, .slice none 0 0, .slice none 0 0] 32)) := Below.and BB.out (bel_new _ _)
        have hne : ¬ w.heap.size + 1 = w3.heap.size := by omega
        have hne' : ¬ w3.heap.size = w.heap.size + 1 := by omega
        obtain ⟨z0, z1, z2, z3, z4⟩ := X4.cell
        have zf := X4.live
        have YC := (X4.set (.bool false) (.slice none 0 0) (.slice none 0 0) (.slice none 0 0) (.slice none 0 0)).cell
        have YB := B4.trans ((set5_chg (w3.alloc (.cells #[.bool false, .slice none 0 0, .slice none 0 0, .slice none 0 0, .slice none 0 0] 32)) (w.heap.size + 1) (.bool false) (.slice none 0 0) (.slice none 0 0) (.slice none 0 0) (.slice none 0 0)).below (fun g _ hg => by omega) B4.size)
        unfold set5 at YC YB
        obtain ⟨y0, y1, y2, y3, y4⟩ := YC
        have HZ : Hid _ := YB
        clear hg X4 B4 YB
        go_wp2
        simp [bodyPost, results, Tryd.results18, go_sem, y0, y1, y2, y3, y4]
        exact ⟨RdD.none HG.out, HZ.out⟩
      | some n =>
        rw [hg] at hn
        obtain ⟨x, vk, rfl, ⟨tA, rV⟩, NO⟩ := hn
        obtain ⟨a1, a2, a3, a4, q1, q2, q3, q4, hx⟩ := tA.shape
        obtain ⟨ak, qk, hvk, _⟩ := rV.len
        cases n with
        | inl ps =>
          have hx' : x = (⟨true, .slice a1 ps.length q1, .slice a2 0 q2, .slice a3 0 q3, .slice a4 0 q4⟩ : TV) := hx
          have hvk' : vk = .slice ak 0 qk := hvk
          subst hx' hvk'
          obtain ⟨n1, n2, n3, n4, _⟩ := NO
          have HL : Hid _ := readR_leaf (d := d') ha (by rw [HP.out]; exact hg)
          have X4 : BoxIs (w3.alloc (.cells #[.bool true, .slice a1 ps.length q1, .slice a2 0 q2, .slice a3 0 q3, .slice a4 0 q4] 32)) (w.heap.size + 1) (.bool false) (.slice none 0 0) (.slice none 0 0) (.slice none 0 0) (.slice none 0 0) := HX.out.2.chg (Chg.of_below (F := fun _ => False) (bel_new _ _)) id
          have P4 : BoxIs (w3.alloc (.cells #[.bool true, .slice a1 ps.length q1, .slice a2 0 q2, .slice a3 0 q3, .slice a4 0 q4] 32)) w3.heap.size (.bool true) (.slice a1 ps.length q1) (.slice a2 0 q2) (.slice a3 0 q3) (.slice a4 0 q4) := heap_alloc_new _ _
          have B4 : Below w.heap.size w (w3.alloc (.cells #[.bool true, .slice a1 ps.length q1, .slice a2 0 q2, .slice a3 0 q3, .slice a4 0 q4] 32)) := Below.and BB.out (bel_new _ _)
          have b4 : Below w3.heap.size w3 (w3.alloc (.cells #[.bool true, .slice a1 ps.length q1, .slice a2 0 q2, .slice a3 0 q3, .slice a4 0 q4] 32)) := bel_new _ _
          generalize hW4 : w3.alloc (.cells #[.bool true, .slice a1 ps.length q1, .slice a2 0 q2, .slice a3 0 q3, .slice a4 0 q4] 32) = W4 at X4 P4 B4 b4
          have E4 : Hid (w3.alloc (.cells #[.bool true, .slice a1 ps.length q1, .slice a2 0 q2, .slice a3 0 q3, .slice a4 0 q4] 32) = W4) := hW4
          have g5 := set5_chg W4 (w.heap.size + 1) (.bool true) (.slice a1 ps.length q1) (.slice a2 0 q2) (.slice a3 0 q3) (.slice a4 0 q4)
          have z5 : (set5 W4 (w.heap.size + 1) (.bool true) (.slice a1 ps.length q1) (.slice a2 0 q2) (.slice a3 0 q3) (.slice a4 0 q4)).heap.size = W4.heap.size := by simp [set5]
          have n1 := (n1.below b4).chg g5 (fun g hg e => by have := ((n1.below b4).lt g hg).1; omega)
          have n2 := (n2.below b4).chg g5 (fun g hg e => by have := ((n2.below b4).lt g hg).1; omega)
          have n3 := (n3.below b4).chg g5 (fun g hg e => by have := ((n3.below b4).lt g hg).1; omega)
          have n4 := (n4.below b4).chg g5 (fun g hg e => by have := ((n4.below b4).lt g hg).1; omega)
          have T5 := (TreeD.leafS (d := d') n1 n2 n3 n4).mono (G := Zone w.heap.size (set5 W4 (w.heap.size + 1) (.bool true) (.slice a1 ps.length q1) (.slice a2 0 q2) (.slice a3 0 q3) (.slice a4 0 q4)).heap.size) (fun g hg => ⟨by have := hg.1; omega, hg.2⟩)
          have B5 := B4.trans (g5.below (fun g _ hg => by omega) B4.size)
          have YC := (X4.set (.bool true) (.slice a1 ps.length q1) (.slice a2 0 q2) (.slice a3 0 q3) (.slice a4 0 q4)).cell
          unfold set5 at T5 B5 YC
          obtain ⟨y0, y1, y2, y3, y4⟩ := YC
          obtain ⟨z0, z1, z2, z3, z4⟩ := X4.cell
          have zf := X4.live
          obtain ⟨p0, p1, p2, p3, p4⟩ := P4.cell
          have HT : Hid _ := And.intro T5 B5
          clear hg X4 P4 B4 b4 n1 n2 n3 n4 T5 B5 g5 z5 tA rV hx hvk hW4
          go_upto_region 4 with fail
          rw [E4.out]
          go_wp2_with fail
          go_loopw [11] (fun i wr => i = .int .i64 0 ∧ wr = W4) (fun _ _ => 0)
          case atStart => exact ⟨rfl, rfl⟩
          case round =>
            obtain ⟨rfl, rfl⟩ := hrel
            go_wp2
            simp [bodyPost, results, Tryd.results18, go_sem, y0, y1, y2, y3, y4]
            rw [HL.out]
            exact ⟨⟨TV.mk true (.slice a1 ps.length q1) (.slice a2 0 q2) (.slice a3 0 q3) (.slice a4 0 q4), by simp, HT.out.1⟩, HT.out.2⟩
        | inr f =>
          have hok := (getNodeF_put (bytesOf_in _) hg).2.2
          have hn1 : 1 ≤ f.kids.length ∧ f.kids.length ≤ 4 := by
            have := hok
            simp [okV] at this
            omega
          have hx' : x = (⟨false, .slice a1 0 q1, .slice a2 f.cuts.length q2, .slice a3 f.kids.length q3, .slice a4 f.buf.length q4⟩ : TV) := by rw [hx]; simp [treeV]
          have hvk' : vk = .slice ak f.kids.length qk := hvk
          subst hx' hvk'
          obtain ⟨n1, n2, n3, n4, n5⟩ := NO
          simp only [treeV, kidsV, List.length_replicate, List.length_nil] at n1 n2 n3 n4 n5
          have n3o : w3.ownsRow (w.heap.size + 3 + 1) 32 5 (.slice a3 f.kids.length q3) f.kids.length (flatT (List.replicate f.kids.length (⟨false, .slice Option.none 0 0, .slice Option.none 0 0, .slice Option.none 0 0, .slice Option.none 0 0⟩ : TV))) := by
            rcases n3 with h | ⟨h, _⟩
            · exact h
            · omega
          have n5o : w3.ownsRow (w.heap.size + 3 + 1) 3 1 (.slice ak f.kids.length qk) f.kids.length (flatI f.kids) := by
            rcases n5 with h | ⟨h, _⟩
            · exact h
            · omega
          obtain ⟨M, hM⟩ : ∃ M, a3 = some ⟨M, 0, Option.none⟩ := by
            obtain ⟨_, ⟨e, e2⟩ | ⟨g, cap', cur, e, _⟩⟩ := id n3o
            · omega
            · simp at e; exact ⟨g, e.1⟩
          subst hM
          obtain ⟨gk, hgk⟩ : ∃ g, ak = some ⟨g, 0, Option.none⟩ := by
            obtain ⟨_, ⟨e, e2⟩ | ⟨g, cap', cur, e, _⟩⟩ := id n5o
            · omega
            · simp at e; exact ⟨g, e.1⟩
          subst hgk
          have mlt := n3o.lt M rfl
          obtain ⟨curM, hMt⟩ := (owns_lt n3o rfl).2
          have nek : gk ≠ M := fun e => by
            subst e
            exact ownB_ne n5o hMt (by decide) rfl rfl
          have klt := n5o.lt gk rfl
          have nec : ∀ g, wrB (.slice a2 f.cuts.length q2) g → g ≠ M := fun g hg e => by
            obtain ⟨cur, hc⟩ := wrB_ty n2 hg
            rw [e, hMt] at hc
            simp at hc
          have neb : ∀ g, wrB (.slice a4 f.buf.length q4) g → g ≠ M := fun g hg e => by
            obtain ⟨cur, hc⟩ := wrB_ty n4 hg
            rw [e, hMt] at hc
            simp at hc
          have nep : ∀ g, wrB (.slice a1 0 q1) g → g ≠ M := fun g hg e => by
            obtain ⟨cur, hc⟩ := wrB_ty n1 hg
            rw [e, hMt] at hc
            simp at hc
          have X4 : BoxIs (w3.alloc (.cells #[.bool false, .slice a1 0 q1, .slice a2 f.cuts.length q2, .slice (some ⟨M, 0, Option.none⟩) f.kids.length q3, .slice a4 f.buf.length q4] 32)) (w.heap.size + 1) (.bool false) (.slice Option.none 0 0) (.slice Option.none 0 0) (.slice Option.none 0 0) (.slice Option.none 0 0) := HX.out.2.chg (Chg.of_below (F := fun _ => False) (bel_new _ _)) id
          have D4 := row_chg HX.out.1 (Chg.of_below (F := fun _ => False) (bel_new _ (.cells #[.bool false, .slice a1 0 q1, .slice a2 f.cuts.length q2, .slice (some ⟨M, 0, Option.none⟩) f.kids.length q3, .slice a4 f.buf.length q4] 32))) id
          have P4 : BoxIs (w3.alloc (.cells #[.bool false, .slice a1 0 q1, .slice a2 f.cuts.length q2, .slice (some ⟨M, 0, Option.none⟩) f.kids.length q3, .slice a4 f.buf.length q4] 32)) w3.heap.size (.bool false) (.slice a1 0 q1) (.slice a2 f.cuts.length q2) (.slice (some ⟨M, 0, Option.none⟩) f.kids.length q3) (.slice a4 f.buf.length q4) := heap_alloc_new _ _
          have B4 : Below w.heap.size w (w3.alloc (.cells #[.bool false, .slice a1 0 q1, .slice a2 f.cuts.length q2, .slice (some ⟨M, 0, Option.none⟩) f.kids.length q3, .slice a4 f.buf.length q4] 32)) := Below.and BB.out (bel_new _ _)
          have b4 : Below w3.heap.size w3 (w3.alloc (.cells #[.bool false, .slice a1 0 q1, .slice a2 f.cuts.length q2, .slice (some ⟨M, 0, Option.none⟩) f.kids.length q3, .slice a4 f.buf.length q4] 32)) := bel_new _ _
          have s4 : (w3.alloc (.cells #[.bool false, .slice a1 0 q1, .slice a2 f.cuts.length q2, .slice (some ⟨M, 0, Option.none⟩) f.kids.length q3, .slice a4 f.buf.length q4] 32)).heap.size = w3.heap.size + 1 := by simp
          generalize hW4 : w3.alloc (.cells #[.bool false, .slice a1 0 q1, .slice a2 f.cuts.length q2, .slice (some ⟨M, 0, Option.none⟩) f.kids.length q3, .slice a4 f.buf.length q4] 32) = W4 at X4 P4 B4 b4 D4 s4
          have E4 : Hid (w3.alloc (.cells #[.bool false, .slice a1 0 q1, .slice a2 f.cuts.length q2, .slice (some ⟨M, 0, Option.none⟩) f.kids.length q3, .slice a4 f.buf.length q4] 32) = W4) := hW4
          have LT : Hid ((∀ g, wrB (.slice a1 0 q1) g → g < w3.heap.size) ∧ (∀ g, wrB (.slice a2 f.cuts.length q2) g → g < w3.heap.size) ∧ (∀ g, wrB (.slice a4 f.buf.length q4) g → g < w3.heap.size)) := ⟨fun g hg => (n1.lt g hg).2, fun g hg => (n2.lt g hg).2, fun g hg => (n4.lt g hg).2⟩
          have m1 := n1.below b4
          have m2 := n2.below b4
          have m4 := n4.below b4
          have m3 := owns_chg n3o (Chg.of_below (F := fun _ => False) b4) (fun _ _ e => e)
          have m5 := owns_chg n5o (Chg.of_below (F := fun _ => False) b4) (fun _ _ e => e)
          have K4 : W4.ownsRow (w.heap.size + 3 + 1) 32 5 (.slice (some ⟨M, 0, Option.none⟩) f.kids.length q3) f.kids.length (flatT ([] ++ List.replicate (f.kids.length - 0) zeroTV)) := m3
          have HF : Hid _ := And.intro m1 (And.intro m2 (And.intro m4 (And.intro m5 (And.intro nep (And.intro nec (And.intro neb (And.intro X4 (And.intro D4 (And.intro P4 B4)))))))))
          obtain ⟨p0, p1, p2, p3, p4⟩ := P4.cell
          have hM2 := mlt.2
          have hM1 := mlt.1
          clear n1 n2 n3 n4 n5 n3o n5o mlt hMt curM nec neb nep X4 D4 P4 B4 b4 m1 m2 m3 m4 m5 tA rV hx hvk hW4 hok
          go_upto_region 4 with fail
          rw [E4.out]
          go_wp2_with fail
          go_loopw [11] (fun i wr => ∃ (j : Nat) (xs : List TV) (ts : List Tr), j ≤ f.kids.length ∧ i = .int .i64 j ∧ xs.length = j ∧ Hid (kidsR (readR (pgB l) d') (f.kids.take j) = some ts ∧ TreesD d' wr W4.heap.size xs ts ∧ wr.ownsRow (w.heap.size + 3 + 1) 32 5 (.slice (some ⟨M, 0, Option.none⟩) f.kids.length q3) f.kids.length (flatT (xs ++ List.replicate (f.kids.length - j) zeroTV)) ∧ Chg (fun g => g = M) W4 wr ∧ W4.heap.size ≤ wr.heap.size)) (fun i _ => f.kids.length - (intOf i).toNat)
          case atStart => exact ⟨0, [], [], Nat.zero_le _, rfl, rfl, rfl, TreesD.nil _ _ _ (Nat.le_refl _), K4, Chg.refl _ _, Nat.le_refl _⟩
          case round =>
            obtain ⟨j, xs, ts, hj, rfl, hxl, hI⟩ := hrel
            obtain ⟨i1, i2, i3, i4, i5⟩ := hI.out
            obtain ⟨m1, m2, m4, m5, nep, nec, neb, X4, D4, P4, B4⟩ := HF.out
            have XR := X4.chg i4 (by omega)
            have DR := row_chg D4 i4 (by omega)
            have PR := P4.chg i4 (by omega)
            have BR : Below w.heap.size w wr := B4.trans (i4.below (fun g _ hg => by omega) B4.size)
            have hjI : (j : Int) ≤ (f.kids.length : Int) := by omega
            have hnI : (f.kids.length : Int) ≤ 4 := by omega
            by_cases hlt : j < f.kids.length
            · have vk5 := owns_chg m5 i4 (fun g hg e => nek (by simp [Value.ownBlock] at hg; omega))
              have ck := (vk5.cellAt j (by omega)).trans (flatI_atI f.kids j hlt)
              have hmd : IntKind.i64.wrap (mo - 1) = (d' : Int) := by rw [wrap_small (mo - 1) (by omega) (by omega)]; have := HMO.out; omega
              have HC : Hid (∀ u, Below wr.heap.size wr u → Calls Tryd.prog 18 #[.agg #[.slice (some ⟨bv, ov, Option.none⟩) l.length cv, vs], .int .i64 (iAt f.kids j), .int .i64 (IntKind.i64.wrap (mo - 1))] u fun e w' => RdD u.heap.size d' (readR (pgB l) d' (iAt f.kids j)) e w' ∧ Below u.heap.size u w') := by
                show ∀ u, _
                rw [hmd]
                exact fun u hu => HI.out d' rfl (iAt f.kids j) u (HV.out.2.2.below (Below.and BR hu))
              clear hmd
              cases hkid : readR (pgB l) d' (iAt f.kids j) with
              | none =>
                rw [hkid] at HC
                have HG : Hid (readR (pgB l) (d' + 1) (k : Int) = Option.none) := by
                  show _ = _
                  rw [readR_fork (d := d') ha (by rw [HP.out]; exact hg), kidsR_none j hlt hkid]; rfl
                generalize iAt f.kids j = kv at *
                have KEEP : Hid (∀ u, Below wr.heap.size wr u → (fun u => u.cell? ⟨w.heap.size, 0, Option.none⟩ = some (.slice (some ⟨bv, ov, Option.none⟩) l.length cv) ∧ u.cell? ⟨w.heap.size, 1, Option.none⟩ = some vs ∧ u.cell? ⟨gk, j, Option.none⟩ = some (.int .i64 kv)) u) := fun u hu => by
                  have := row_chg DR (Chg.of_below (F := fun _ => False) hu) id
                  exact ⟨by rw [cell_of_cells this]; rfl, by rw [cell_of_cells this]; rfl, (hu.cell (by exact cell_lt ck)).trans ck⟩
                have II : Hid _ := And.intro XR BR
                clear i1 i2 i3 i4 i5 m1 m2 m4 m5 nep nec neb X4 D4 P4 B4 XR DR PR BR vk5 hI HF K4 p0 p1 p2 p3 p4
                have hb1 : (0 : Int) ≤ (j : Int) := by omega
                have hb2 : (j : Int) < (f.kids.length : Int) := by omega
                go_wp2_with fail
                have SL : Hid (Below wr.heap.size wr wr.drew) := (Below.refl _ _).drew
                refine wp_region_held_drew (S := (fun u => u.cell? ⟨w.heap.size, 0, Option.none⟩ = some (.slice (some ⟨bv, ov, Option.none⟩) l.length cv) ∧ u.cell? ⟨w.heap.size, 1, Option.none⟩ = some vs ∧ u.cell? ⟨gk, j, Option.none⟩ = some (.int .i64 kv))) (by kernel_rfl) (KEEP.out _ SL.out) (fun hH => ?_)
                refine wpAnyH_take (i := 0) (oi := ⟨_, _, _, _, _, _⟩) (v := ?_) rfl (by kernel_rfl) (by kernel_rfl) (by kernel_rfl) (fun _ _ _ h => h) (Or.inl ⟨by rfl, ?_⟩) (by assumption) ?_
                rotate_left
                · ((intro w hSw; (try dsimp only at hSw); go_simp); (try with_reducible rfl))
                try simp only [Act.put, List.setIfInBounds_toArray, List.set_cons_zero, List.set_cons_succ]
                refine wpAnyH_take (i := 1) (oi := ⟨_, _, _, _, _, _⟩) (v := ?_) rfl (by kernel_rfl) (by kernel_rfl) (by kernel_rfl) (fun _ _ _ h => h) (Or.inl ⟨by rfl, ?_⟩) (by assumption) ?_
                rotate_left
                · ((intro w hSw; (try dsimp only at hSw); go_simp); (try with_reducible rfl))
                try simp only [Act.put, List.setIfInBounds_toArray, List.set_cons_zero, List.set_cons_succ]
                refine wpAnyH_take (i := 2) (oi := ⟨_, _, _, _, _, _⟩) (v := ?_) rfl (by kernel_rfl) (by kernel_rfl) (by kernel_rfl) (fun _ _ _ h => h) (Or.inl ⟨by rfl, ?_⟩) (by assumption) ?_
                rotate_left
                · ((intro w hSw; (try dsimp only at hSw); go_simp); (try with_reducible rfl))
                try simp only [Act.put, List.setIfInBounds_toArray, List.set_cons_zero, List.set_cons_succ]
                refine wpAnyH_take (i := 3) (oi := ⟨_, _, _, _, _, _⟩) (v := ?_) rfl (by kernel_rfl) (by kernel_rfl) (by kernel_rfl) (fun _ _ _ h => h) (Or.inl ⟨by rfl, ?_⟩) (by assumption) ?_
                rotate_left
                · ((intro w hSw; (try dsimp only at hSw); go_simp); (try with_reducible rfl))
                try simp only [Act.put, List.setIfInBounds_toArray, List.set_cons_zero, List.set_cons_succ]
                refine wpAnyH_take (i := 4) (oi := ⟨_, _, _, _, _, _⟩) (v := ?_) rfl (by kernel_rfl) (by kernel_rfl) (by kernel_rfl) (fun _ _ _ h => h) (Or.inl ⟨by rfl, ?_⟩) (by assumption) ?_
                rotate_left
                · ((intro w hSw; (try dsimp only at hSw); go_simp); (try with_reducible rfl))
                try simp only [Act.put, List.setIfInBounds_toArray, List.set_cons_zero, List.set_cons_succ]
                refine wpAnyH_take (i := 5) (oi := ⟨_, _, _, _, _, _⟩) (v := ?_) rfl (by kernel_rfl) (by kernel_rfl) (by kernel_rfl) (fun _ _ _ h => h) (Or.inl ⟨by rfl, ?_⟩) (by assumption) ?_
                rotate_left
                · ((intro w hSw; (try dsimp only at hSw); go_simp); (try with_reducible rfl))
                try simp only [Act.put, List.setIfInBounds_toArray, List.set_cons_zero, List.set_cons_succ]
                refine wpAnyH_take (i := 6) (oi := ⟨_, _, _, _, _, _⟩) (v := ?_) rfl (by kernel_rfl) (by kernel_rfl) (by kernel_rfl) (fun _ _ _ h => h) (Or.inl ⟨by rfl, ?_⟩) (by assumption) ?_
                rotate_left
                · ((intro w hSw; (try dsimp only at hSw); go_simp); (try with_reducible rfl))
                try simp only [Act.put, List.setIfInBounds_toArray, List.set_cons_zero, List.set_cons_succ]
                refine wpAnyH_ready (rs := [7, 11]) (by kernel_rfl) (by simp) ?_
                refine AllReadyH.cons (o := ⟨_, _, _, _, _, _⟩) rfl (fun K hK => ?_) (AllReadyH.cons (o := ⟨_, _, _, _, _, _⟩) rfl (fun K hK => ?_) AllReadyH.nil)
                · refine (if_pos (show Region.wanted _ _ = true by kernel_rfl)).mpr ?_
                  refine end_call 18 [.tmp 47, .tmp 51, .tmp 53] #[37, 3, 3] rfl run_l6Read [.agg #[.slice (some ⟨bv, ov, Option.none⟩) l.length cv, vs], .int .i64 kv, .int .i64 (IntKind.i64.wrap (mo - 1))] rfl (HC.out wr.drew SL.out) ?_
                  rintro e w5 ⟨h5, b5⟩
                  have h5' : e = .returned (.tuple #[treeZ, .bool false]) := h5
                  subst h5'
                  have bb5 : Below wr.heap.size wr w5 := Below.and SL.out b5
                  refine .inl ⟨_, rfl, ?_⟩
                  refine hK.out _ _ (KEEP.out _ bb5) (fun hH2 => ?_)
                  clear hK K hH
                  have hH := hH2
                  clear hH2
                  try simp only [Act.put, List.setIfInBounds_toArray, List.set_cons_zero, List.set_cons_succ]
                  refine wpAnyH_take (i := 8) (oi := ⟨_, _, _, _, _, _⟩) (v := ?_) rfl (by kernel_rfl) (by kernel_rfl) (by kernel_rfl) (fun _ _ _ h => h) (Or.inl ⟨by rfl, ?_⟩) (by assumption) ?_
                  rotate_left
                  · ((intro w hSw; (try dsimp only at hSw); go_simp); (try with_reducible rfl))
                  try simp only [Act.put, List.setIfInBounds_toArray, List.set_cons_zero, List.set_cons_succ]
                  refine wpAnyH_take (i := 9) (oi := ⟨_, _, _, _, _, _⟩) (v := ?_) rfl (by kernel_rfl) (by kernel_rfl) (by kernel_rfl) (fun _ _ _ h => h) (Or.inl ⟨by rfl, ?_⟩) (by assumption) ?_
                  rotate_left
                  · ((intro w hSw; (try dsimp only at hSw); go_simp); (try with_reducible rfl))
                  try simp only [Act.put, List.setIfInBounds_toArray, List.set_cons_zero, List.set_cons_succ]
                  refine wpAnyH_take (i := 10) (oi := ⟨_, _, _, _, _, _⟩) (v := ?_) rfl (by kernel_rfl) (by kernel_rfl) (by kernel_rfl) (fun _ _ _ h => h) (Or.inl ⟨by rfl, ?_⟩) (by assumption) ?_
                  rotate_left
                  · ((intro w hSw; (try dsimp only at hSw); go_simp); (try with_reducible rfl))
                  try simp only [Act.put, List.setIfInBounds_toArray, List.set_cons_zero, List.set_cons_succ]
                  refine wpAnyH_ready (rs := [11]) (by kernel_rfl) (by simp) ?_
                  refine AllReadyH.cons (o := ⟨_, _, _, _, _, _⟩) rfl (fun K hK => ?_) AllReadyH.nil
                  go_simp
                  refine hK.out _ _ (KEEP.out _ (Below.and bb5 (bel_new _ _))) (fun hH2 => ?_)
                  clear hK K hH
                  have hH := hH2
                  clear hH2
                  try simp only [Act.put, List.setIfInBounds_toArray, List.set_cons_zero, List.set_cons_succ]
                  refine wpAnyH_ready (rs := [12]) (by kernel_rfl) (by simp) ?_
                  refine AllReadyH.cons (o := ⟨_, _, _, _, _, _⟩) rfl (fun K hK => ?_) AllReadyH.nil
                  go_simp
                  refine hK.out _ _ (KEEP.out _ (Below.and bb5 (bel_new _ _))) (fun hH2 => ?_)
                  clear hK K hH
                  have hH := hH2
                  clear hH2
                  try simp only [Act.put, List.setIfInBounds_toArray, List.set_cons_zero, List.set_cons_succ]
                  refine wpAnyH_take (i := 13) (oi := ⟨_, _, _, _, _, _⟩) (v := ?_) rfl (by kernel_rfl) (by kernel_rfl) (by kernel_rfl) (fun _ _ _ h => h) (Or.inl ⟨by rfl, ?_⟩) (by assumption) ?_
                  rotate_left
                  · ((intro w hSw; (try dsimp only at hSw); go_simp); (try with_reducible rfl))
                  try simp only [Act.put, List.setIfInBounds_toArray, List.set_cons_zero, List.set_cons_succ]
                  refine wpAnyH_done (by kernel_rfl) ?_ _
                  clear hH
                  have bb6 : Below wr.heap.size wr (w5.alloc (.cells #[.bool false, .slice Option.none 0 0, .slice Option.none 0 0, .slice Option.none 0 0, .slice Option.none 0 0] 32)) := Below.and bb5 (bel_new _ _)
                  have Q6 : (w5.alloc (.cells #[.bool false, .slice Option.none 0 0, .slice Option.none 0 0, .slice Option.none 0 0, .slice Option.none 0 0] 32)).heap[w5.heap.size]? = some (.cells #[.bool false, .slice Option.none 0 0, .slice Option.none 0 0, .slice Option.none 0 0, .slice Option.none 0 0] 32 (0, 0)) := heap_alloc_new _ _
                  have X6 : BoxIs (w5.alloc (.cells #[.bool false, .slice Option.none 0 0, .slice Option.none 0 0, .slice Option.none 0 0, .slice Option.none 0 0] 32)) (w.heap.size + 1) (.bool false) (.slice Option.none 0 0) (.slice Option.none 0 0) (.slice Option.none 0 0) (.slice Option.none 0 0) := II.out.1.chg (Chg.of_below (F := fun _ => False) bb6) id
                  have B6 : Below w.heap.size w (w5.alloc (.cells #[.bool false, .slice Option.none 0 0, .slice Option.none 0 0, .slice Option.none 0 0, .slice Option.none 0 0] 32)) := Below.and II.out.2 bb6
                  generalize (w5.alloc (.cells #[.bool false, .slice Option.none 0 0, .slice Option.none 0 0, .slice Option.none 0 0, .slice Option.none 0 0] 32)) = W6 at *
                  obtain ⟨z0, z1, z2, z3, z4⟩ := X6.cell
                  have zf := X6.live
                  have YC := (X6.set (.bool false) (.slice Option.none 0 0) (.slice Option.none 0 0) (.slice Option.none 0 0) (.slice Option.none 0 0)).cell
                  have YB := B6.trans ((set5_chg W6 (w.heap.size + 1) (.bool false) (.slice Option.none 0 0) (.slice Option.none 0 0) (.slice Option.none 0 0) (.slice Option.none 0 0)).below (fun g _ hg => by omega) B6.size)
                  unfold set5 at YC YB
                  obtain ⟨y0, y1, y2, y3, y4⟩ := YC
                  have HZ : Hid _ := YB
                  clear X6 B6 YB Q6 bb6 KEEP HC
                  go_wp2
                  simp [bodyPost, results, Tryd.results18, go_sem, y0, y1, y2, y3, y4]
                  exact ⟨RdD.none HG.out, HZ.out⟩
                · go_simp
                  have SV : Hid (Below wr.heap.size wr (wr.drew.alloc (.cells #[.bool false, .slice Option.none 0 0, .slice Option.none 0 0, .slice Option.none 0 0, .slice Option.none 0 0] 32))) := Below.and SL.out (bel_new _ _)
                  have NV : Hid (BoxIs (wr.drew.alloc (.cells #[.bool false, .slice Option.none 0 0, .slice Option.none 0 0, .slice Option.none 0 0, .slice Option.none 0 0] 32)) wr.heap.size (.bool false) (.slice Option.none 0 0) (.slice Option.none 0 0) (.slice Option.none 0 0) (.slice Option.none 0 0)) := heap_alloc_new wr.drew (.cells #[.bool false, .slice Option.none 0 0, .slice Option.none 0 0, .slice Option.none 0 0, .slice Option.none 0 0] 32)
                  refine hK.out _ _ (KEEP.out _ SV.out) (fun hH2 => ?_)
                  clear hK K hH
                  have hH := hH2
                  clear hH2
                  try simp only [Act.put, List.setIfInBounds_toArray, List.set_cons_zero, List.set_cons_succ]
                  refine wpAnyH_ready (rs := [7]) (by kernel_rfl) (by simp) ?_
                  refine AllReadyH.cons (o := ⟨_, _, _, _, _, _⟩) rfl (fun K hK => ?_) AllReadyH.nil
                  refine (if_pos (show Region.wanted _ _ = true by kernel_rfl)).mpr ?_
                  refine end_call 18 [.tmp 47, .tmp 51, .tmp 53] #[37, 3, 3] rfl run_l6Read [.agg #[.slice (some ⟨bv, ov, Option.none⟩) l.length cv, vs], .int .i64 kv, .int .i64 (IntKind.i64.wrap (mo - 1))] rfl (HC.out _ SV.out) ?_
                  rintro e w5 ⟨h5, b5⟩
                  have h5' : e = .returned (.tuple #[treeZ, .bool false]) := h5
                  subst h5'
                  have bb5 : Below wr.heap.size wr w5 := Below.and SV.out b5
                  have QV := NV.out.chg (Chg.of_below (F := fun _ => False) b5) id
                  have gV := set5_chg w5 wr.heap.size (.bool false) (.slice Option.none 0 0) (.slice Option.none 0 0) (.slice Option.none 0 0) (.slice Option.none 0 0)
                  have bb6 : Below wr.heap.size wr (set5 w5 wr.heap.size (.bool false) (.slice Option.none 0 0) (.slice Option.none 0 0) (.slice Option.none 0 0) (.slice Option.none 0 0)) := bb5.trans (gV.below (fun g _ hg => by omega) bb5.size)
                  have Q6 : (set5 w5 wr.heap.size (.bool false) (.slice Option.none 0 0) (.slice Option.none 0 0) (.slice Option.none 0 0) (.slice Option.none 0 0)).heap[wr.heap.size]? = some (.cells #[.bool false, .slice Option.none 0 0, .slice Option.none 0 0, .slice Option.none 0 0, .slice Option.none 0 0] 32 (0, 0)) := QV.set (.bool false) (.slice Option.none 0 0) (.slice Option.none 0 0) (.slice Option.none 0 0) (.slice Option.none 0 0)
                  have zV : (set5 w5 wr.heap.size (.bool false) (.slice Option.none 0 0) (.slice Option.none 0 0) (.slice Option.none 0 0) (.slice Option.none 0 0)).heap.size = w5.heap.size := by simp [set5]
                  obtain ⟨cz0, cz1, cz2, cz3, cz4⟩ := QV.cell
                  have czf := QV.live
                  unfold set5 at bb6 Q6 zV gV
                  refine .inl ⟨_, rfl, ?_⟩
                  refine hK.out _ _ (KEEP.out _ bb5) (fun hH2 => ?_)
                  clear hK K hH
                  have hH := hH2
                  clear hH2
                  try simp only [Act.put, List.setIfInBounds_toArray, List.set_cons_zero, List.set_cons_succ]
                  refine wpAnyH_take (i := 8) (oi := ⟨_, _, _, _, _, _⟩) (v := ?_) rfl (by kernel_rfl) (by kernel_rfl) (by kernel_rfl) (fun _ _ _ h => h) (Or.inl ⟨by rfl, ?_⟩) (by assumption) ?_
                  rotate_left
                  · ((intro w hSw; (try dsimp only at hSw); go_simp); (try with_reducible rfl))
                  try simp only [Act.put, List.setIfInBounds_toArray, List.set_cons_zero, List.set_cons_succ]
                  refine wpAnyH_take (i := 9) (oi := ⟨_, _, _, _, _, _⟩) (v := ?_) rfl (by kernel_rfl) (by kernel_rfl) (by kernel_rfl) (fun _ _ _ h => h) (Or.inl ⟨by rfl, ?_⟩) (by assumption) ?_
                  rotate_left
                  · ((intro w hSw; (try dsimp only at hSw); go_simp); (try with_reducible rfl))
                  try simp only [Act.put, List.setIfInBounds_toArray, List.set_cons_zero, List.set_cons_succ]
                  refine wpAnyH_take (i := 10) (oi := ⟨_, _, _, _, _, _⟩) (v := ?_) rfl (by kernel_rfl) (by kernel_rfl) (by kernel_rfl) (fun _ _ _ h => h) (Or.inl ⟨by rfl, ?_⟩) (by assumption) ?_
                  rotate_left
                  · ((intro w hSw; (try dsimp only at hSw); go_simp); (try with_reducible rfl))
                  try simp only [Act.put, List.setIfInBounds_toArray, List.set_cons_zero, List.set_cons_succ]
                  refine wpAnyH_ready (rs := [12]) (by kernel_rfl) (by simp) ?_
                  refine AllReadyH.cons (o := ⟨_, _, _, _, _, _⟩) rfl (fun K hK => ?_) AllReadyH.nil
                  go_simp
                  refine hK.out _ _ (KEEP.out _ bb6) (fun hH2 => ?_)
                  clear hK K hH
                  have hH := hH2
                  clear hH2
                  try simp only [Act.put, List.setIfInBounds_toArray, List.set_cons_zero, List.set_cons_succ]
                  refine wpAnyH_take (i := 13) (oi := ⟨_, _, _, _, _, _⟩) (v := ?_) rfl (by kernel_rfl) (by kernel_rfl) (by kernel_rfl) (fun _ _ _ h => h) (Or.inl ⟨by rfl, ?_⟩) (by assumption) ?_
                  rotate_left
                  · ((intro w hSw; (try dsimp only at hSw); go_simp); (try with_reducible rfl))
                  try simp only [Act.put, List.setIfInBounds_toArray, List.set_cons_zero, List.set_cons_succ]
                  refine wpAnyH_done (by kernel_rfl) ?_ _
                  clear hH cz0 cz1 cz2 cz3 cz4 czf
                  have X6 : BoxIs (((((w5.setCell ⟨wr.heap.size, 0, Option.none⟩ (.bool false)).setCell ⟨wr.heap.size, 1, Option.none⟩ (.slice Option.none 0 0)).setCell ⟨wr.heap.size, 2, Option.none⟩ (.slice Option.none 0 0)).setCell ⟨wr.heap.size, 3, Option.none⟩ (.slice Option.none 0 0)).setCell ⟨wr.heap.size, 4, Option.none⟩ (.slice Option.none 0 0)) (w.heap.size + 1) (.bool false) (.slice Option.none 0 0) (.slice Option.none 0 0) (.slice Option.none 0 0) (.slice Option.none 0 0) := II.out.1.chg (Chg.of_below (F := fun _ => False) bb6) id
                  have B6 : Below w.heap.size w (((((w5.setCell ⟨wr.heap.size, 0, Option.none⟩ (.bool false)).setCell ⟨wr.heap.size, 1, Option.none⟩ (.slice Option.none 0 0)).setCell ⟨wr.heap.size, 2, Option.none⟩ (.slice Option.none 0 0)).setCell ⟨wr.heap.size, 3, Option.none⟩ (.slice Option.none 0 0)).setCell ⟨wr.heap.size, 4, Option.none⟩ (.slice Option.none 0 0)) := Below.and II.out.2 bb6
                  generalize (((((w5.setCell ⟨wr.heap.size, 0, Option.none⟩ (.bool false)).setCell ⟨wr.heap.size, 1, Option.none⟩ (.slice Option.none 0 0)).setCell ⟨wr.heap.size, 2, Option.none⟩ (.slice Option.none 0 0)).setCell ⟨wr.heap.size, 3, Option.none⟩ (.slice Option.none 0 0)).setCell ⟨wr.heap.size, 4, Option.none⟩ (.slice Option.none 0 0)) = W6 at *
                  obtain ⟨z0, z1, z2, z3, z4⟩ := X6.cell
                  have zf := X6.live
                  have YC := (X6.set (.bool false) (.slice Option.none 0 0) (.slice Option.none 0 0) (.slice Option.none 0 0) (.slice Option.none 0 0)).cell
                  have YB := B6.trans ((set5_chg W6 (w.heap.size + 1) (.bool false) (.slice Option.none 0 0) (.slice Option.none 0 0) (.slice Option.none 0 0) (.slice Option.none 0 0)).below (fun g _ hg => by omega) B6.size)
                  unfold set5 at YC YB
                  obtain ⟨y0, y1, y2, y3, y4⟩ := YC
                  have HZ : Hid _ := YB
                  clear X6 B6 YB Q6 bb6 KEEP HC
                  go_wp2
                  simp [bodyPost, results, Tryd.results18, go_sem, y0, y1, y2, y3, y4]
                  exact ⟨RdD.none HG.out, HZ.out⟩
              | some t =>
                rw [hkid] at HC
                have HK : Hid _ := kidsR_step hlt i1 hkid
                generalize iAt f.kids j = kv at *
                have KEEP : Hid (∀ u, Below wr.heap.size wr u → (fun u => u.cell? ⟨w.heap.size, 0, Option.none⟩ = some (.slice (some ⟨bv, ov, Option.none⟩) l.length cv) ∧ u.cell? ⟨w.heap.size, 1, Option.none⟩ = some vs ∧ u.cell? ⟨gk, j, Option.none⟩ = some (.int .i64 kv)) u) := fun u hu => by
                  have := row_chg DR (Chg.of_below (F := fun _ => False) hu) id
                  exact ⟨by rw [cell_of_cells this]; rfl, by rw [cell_of_cells this]; rfl, (hu.cell (by exact cell_lt ck)).trans ck⟩
                have II : Hid _ := And.intro i2 (And.intro i3 (And.intro i4 (And.intro i5 PR)))
                clear i1 i2 i3 i4 i5 m1 m2 m4 m5 nep nec neb X4 D4 P4 B4 XR DR PR BR vk5 hI HF K4 p0 p1 p2 p3 p4
                have hb1 : (0 : Int) ≤ (j : Int) := by omega
                have hb2 : (j : Int) < (f.kids.length : Int) := by omega
                go_wp2_with fail
                have SL : Hid (Below wr.heap.size wr wr.drew) := (Below.refl _ _).drew
                refine wp_region_held_drew (S := (fun u => u.cell? ⟨w.heap.size, 0, Option.none⟩ = some (.slice (some ⟨bv, ov, Option.none⟩) l.length cv) ∧ u.cell? ⟨w.heap.size, 1, Option.none⟩ = some vs ∧ u.cell? ⟨gk, j, Option.none⟩ = some (.int .i64 kv))) (by kernel_rfl) (KEEP.out _ SL.out) (fun hH => ?_)
                refine wpAnyH_take (i := 0) (oi := ⟨_, _, _, _, _, _⟩) (v := ?_) rfl (by kernel_rfl) (by kernel_rfl) (by kernel_rfl) (fun _ _ _ h => h) (Or.inl ⟨by rfl, ?_⟩) (by assumption) ?_
                rotate_left
                · ((intro w hSw; (try dsimp only at hSw); go_simp); (try with_reducible rfl))
                try simp only [Act.put, List.setIfInBounds_toArray, List.set_cons_zero, List.set_cons_succ]
                refine wpAnyH_take (i := 1) (oi := ⟨_, _, _, _, _, _⟩) (v := ?_) rfl (by kernel_rfl) (by kernel_rfl) (by kernel_rfl) (fun _ _ _ h => h) (Or.inl ⟨by rfl, ?_⟩) (by assumption) ?_
                rotate_left
                · ((intro w hSw; (try dsimp only at hSw); go_simp); (try with_reducible rfl))
                try simp only [Act.put, List.setIfInBounds_toArray, List.set_cons_zero, List.set_cons_succ]
                refine wpAnyH_take (i := 2) (oi := ⟨_, _, _, _, _, _⟩) (v := ?_) rfl (by kernel_rfl) (by kernel_rfl) (by kernel_rfl) (fun _ _ _ h => h) (Or.inl ⟨by rfl, ?_⟩) (by assumption) ?_
                rotate_left
                · ((intro w hSw; (try dsimp only at hSw); go_simp); (try with_reducible rfl))
                try simp only [Act.put, List.setIfInBounds_toArray, List.set_cons_zero, List.set_cons_succ]
                refine wpAnyH_take (i := 3) (oi := ⟨_, _, _, _, _, _⟩) (v := ?_) rfl (by kernel_rfl) (by kernel_rfl) (by kernel_rfl) (fun _ _ _ h => h) (Or.inl ⟨by rfl, ?_⟩) (by assumption) ?_
                rotate_left
                · ((intro w hSw; (try dsimp only at hSw); go_simp); (try with_reducible rfl))
                try simp only [Act.put, List.setIfInBounds_toArray, List.set_cons_zero, List.set_cons_succ]
                refine wpAnyH_take (i := 4) (oi := ⟨_, _, _, _, _, _⟩) (v := ?_) rfl (by kernel_rfl) (by kernel_rfl) (by kernel_rfl) (fun _ _ _ h => h) (Or.inl ⟨by rfl, ?_⟩) (by assumption) ?_
                rotate_left
                · ((intro w hSw; (try dsimp only at hSw); go_simp); (try with_reducible rfl))
                try simp only [Act.put, List.setIfInBounds_toArray, List.set_cons_zero, List.set_cons_succ]
                refine wpAnyH_take (i := 5) (oi := ⟨_, _, _, _, _, _⟩) (v := ?_) rfl (by kernel_rfl) (by kernel_rfl) (by kernel_rfl) (fun _ _ _ h => h) (Or.inl ⟨by rfl, ?_⟩) (by assumption) ?_
                rotate_left
                · ((intro w hSw; (try dsimp only at hSw); go_simp); (try with_reducible rfl))
                try simp only [Act.put, List.setIfInBounds_toArray, List.set_cons_zero, List.set_cons_succ]
                refine wpAnyH_take (i := 6) (oi := ⟨_, _, _, _, _, _⟩) (v := ?_) rfl (by kernel_rfl) (by kernel_rfl) (by kernel_rfl) (fun _ _ _ h => h) (Or.inl ⟨by rfl, ?_⟩) (by assumption) ?_
                rotate_left
                · ((intro w hSw; (try dsimp only at hSw); go_simp); (try with_reducible rfl))
                try simp only [Act.put, List.setIfInBounds_toArray, List.set_cons_zero, List.set_cons_succ]
                refine wpAnyH_ready (rs := [7, 11]) (by kernel_rfl) (by simp) ?_
                refine AllReadyH.cons (o := ⟨_, _, _, _, _, _⟩) rfl (fun K hK => ?_) (AllReadyH.cons (o := ⟨_, _, _, _, _, _⟩) rfl (fun K hK => ?_) AllReadyH.nil)
                · refine (if_pos (show Region.wanted _ _ = true by kernel_rfl)).mpr ?_
                  refine end_call 18 [.tmp 47, .tmp 51, .tmp 53] #[37, 3, 3] rfl run_l6Read [.agg #[.slice (some ⟨bv, ov, Option.none⟩) l.length cv, vs], .int .i64 kv, .int .i64 (IntKind.i64.wrap (mo - 1))] rfl (HC.out wr.drew SL.out) ?_
                  rintro e w5 ⟨⟨x, h5, h6⟩, b5⟩
                  subst h5
                  obtain ⟨xl, xp, xc, xk, xb⟩ := x
                  obtain ⟨⟨y1, k1, r1, hy1⟩, ⟨y2, k2, r2, hy2⟩, ⟨y3, k3, r3, hy3⟩, ⟨y4, k4, r4, hy4⟩, _⟩ := TreeD.slices h6
                  simp only at hy1 hy2 hy3 hy4
                  subst hy1 hy2 hy3 hy4
                  have bb5 : Below wr.heap.size wr w5 := Below.and SL.out b5
                  refine .inl ⟨_, rfl, ?_⟩
                  refine hK.out _ _ (KEEP.out _ bb5) (fun hH2 => ?_)
                  clear hK K hH
                  have hH := hH2
                  clear hH2
                  try simp only [Act.put, List.setIfInBounds_toArray, List.set_cons_zero, List.set_cons_succ]
                  refine wpAnyH_take (i := 8) (oi := ⟨_, _, _, _, _, _⟩) (v := ?_) rfl (by kernel_rfl) (by kernel_rfl) (by kernel_rfl) (fun _ _ _ h => h) (Or.inl ⟨by rfl, ?_⟩) (by assumption) ?_
                  rotate_left
                  · ((intro w hSw; (try dsimp only at hSw); go_simp); (try with_reducible rfl))
                  try simp only [Act.put, List.setIfInBounds_toArray, List.set_cons_zero, List.set_cons_succ]
                  refine wpAnyH_take (i := 9) (oi := ⟨_, _, _, _, _, _⟩) (v := ?_) rfl (by kernel_rfl) (by kernel_rfl) (by kernel_rfl) (fun _ _ _ h => h) (Or.inl ⟨by rfl, ?_⟩) (by assumption) ?_
                  rotate_left
                  · ((intro w hSw; (try dsimp only at hSw); go_simp); (try with_reducible rfl))
                  try simp only [Act.put, List.setIfInBounds_toArray, List.set_cons_zero, List.set_cons_succ]
                  refine wpAnyH_take (i := 10) (oi := ⟨_, _, _, _, _, _⟩) (v := ?_) rfl (by kernel_rfl) (by kernel_rfl) (by kernel_rfl) (fun _ _ _ h => h) (Or.inl ⟨by rfl, ?_⟩) (by assumption) ?_
                  rotate_left
                  · ((intro w hSw; (try dsimp only at hSw); go_simp); (try with_reducible rfl))
                  try simp only [Act.put, List.setIfInBounds_toArray, List.set_cons_zero, List.set_cons_succ]
                  refine wpAnyH_ready (rs := [11]) (by kernel_rfl) (by simp) ?_
                  refine AllReadyH.cons (o := ⟨_, _, _, _, _, _⟩) rfl (fun K hK => ?_) AllReadyH.nil
                  go_simp
                  refine hK.out _ _ (KEEP.out _ (Below.and bb5 (bel_new _ _))) (fun hH2 => ?_)
                  clear hK K hH
                  have hH := hH2
                  clear hH2
                  try simp only [Act.put, List.setIfInBounds_toArray, List.set_cons_zero, List.set_cons_succ]
                  refine wpAnyH_ready (rs := [12]) (by kernel_rfl) (by simp) ?_
                  refine AllReadyH.cons (o := ⟨_, _, _, _, _, _⟩) rfl (fun K hK => ?_) AllReadyH.nil
                  go_simp
                  refine hK.out _ _ (KEEP.out _ (Below.and bb5 (bel_new _ _))) (fun hH2 => ?_)
                  clear hK K hH
                  have hH := hH2
                  clear hH2
                  try simp only [Act.put, List.setIfInBounds_toArray, List.set_cons_zero, List.set_cons_succ]
                  refine wpAnyH_take (i := 13) (oi := ⟨_, _, _, _, _, _⟩) (v := ?_) rfl (by kernel_rfl) (by kernel_rfl) (by kernel_rfl) (fun _ _ _ h => h) (Or.inl ⟨by rfl, ?_⟩) (by assumption) ?_
                  rotate_left
                  · ((intro w hSw; (try dsimp only at hSw); go_simp); (try with_reducible rfl))
                  try simp only [Act.put, List.setIfInBounds_toArray, List.set_cons_zero, List.set_cons_succ]
                  refine wpAnyH_done (by kernel_rfl) ?_ _
                  clear hH
                  have bb6 : Below wr.heap.size wr (w5.alloc (.cells #[.bool xl, .slice y1 k1 r1, .slice y2 k2 r2, .slice y3 k3 r3, .slice y4 k4 r4] 32)) := Below.and bb5 (bel_new _ _)
                  have Q6 : (w5.alloc (.cells #[.bool xl, .slice y1 k1 r1, .slice y2 k2 r2, .slice y3 k3 r3, .slice y4 k4 r4] 32)).heap[w5.heap.size]? = some (.cells #[.bool xl, .slice y1 k1 r1, .slice y2 k2 r2, .slice y3 k3 r3, .slice y4 k4 r4] 32 (0, 0)) := heap_alloc_new _ _
                  have t6 : TreeD d' (w5.alloc (.cells #[.bool xl, .slice y1 k1 r1, .slice y2 k2 r2, .slice y3 k3 r3, .slice y4 k4 r4] 32)) (Zone wr.heap.size (w5.alloc (.cells #[.bool xl, .slice y1 k1 r1, .slice y2 k2 r2, .slice y3 k3 r3, .slice y4 k4 r4] 32)).heap.size) (TV.mk xl (.slice y1 k1 r1) (.slice y2 k2 r2) (.slice y3 k3 r3) (.slice y4 k4 r4)) t := (h6.below (bel_new _ _)).mono (fun g hg => ⟨by have := hg.1; simpa using this, by have := hg.2; simp; omega⟩)
                  have Q7 : BoxIs (w5.alloc (.cells #[.bool xl, .slice y1 k1 r1, .slice y2 k2 r2, .slice y3 k3 r3, .slice y4 k4 r4] 32)) w5.heap.size (.bool xl) (.slice y1 k1 r1) (.slice y2 k2 r2) (.slice y3 k3 r3) (.slice y4 k4 r4) := Q6
                  have P6 := II.out.2.2.2.2.chg (Chg.of_below (F := fun _ => False) bb6) id
                  generalize (w5.alloc (.cells #[.bool xl, .slice y1 k1 r1, .slice y2 k2 r2, .slice y3 k3 r3, .slice y4 k4 r4] 32)) = W6 at *
                  obtain ⟨⟨z0, z1, z2, z3, z4⟩, zf, zst⟩ := slot_setQ (x := TV.mk xl (.slice y1 k1 r1) (.slice y2 k2 r2) (.slice y3 k3 r3) (.slice y4 k4 r4)) (owns_chg II.out.2.1 (Chg.of_below (F := fun _ => False) bb6) (fun _ _ e => e)) hlt hxl
                  have gT := setT_chg W6 M j (TV.mk xl (.slice y1 k1 r1) (.slice y2 k2 r2) (.slice y3 k3 r3) (.slice y4 k4 r4))
                  have zT := setT_size W6 M j (TV.mk xl (.slice y1 k1 r1) (.slice y2 k2 r2) (.slice y3 k3 r3) (.slice y4 k4 r4))
                  have hz6 : wr.heap.size ≤ W6.heap.size := bb6.size
                  have T6 := (II.out.1.snoc bb6 t6).chg gT (fun g hg => by omega) (by omega)
                  have C6 : Chg (fun g => g = M) W4 (setT W6 M j (TV.mk xl (.slice y1 k1 r1) (.slice y2 k2 r2) (.slice y3 k3 r3) (.slice y4 k4 r4))) := (II.out.2.2.1.trans (Chg.of_below (F := fun g => g = M) bb6) (fun _ _ e => e)).trans gT (fun _ _ e => e)
                  have z6 : W4.heap.size ≤ (setT W6 M j (TV.mk xl (.slice y1 k1 r1) (.slice y2 k2 r2) (.slice y3 k3 r3) (.slice y4 k4 r4))).heap.size := by have := II.out.2.2.2.1; omega
                  have FIN : Hid _ := And.intro HK.out (And.intro T6 (And.intro zst (And.intro C6 z6)))
                  obtain ⟨o0, o1, o2, o3, o4⟩ := Q7.cell
                  obtain ⟨p0, p1, p2, p3, p4⟩ := P6.cell
                  clear T6 zst C6 z6 gT zT KEEP HC h6 b5 bb5 bb6 t6 Q6 Q7 P6 ck
                  go_wp2
                  go_roundw
                  case rel => exact ⟨j + 1, xs ++ [TV.mk xl (.slice y1 k1 r1) (.slice y2 k2 r2) (.slice y3 k3 r3) (.slice y4 k4 r4)], ts ++ [t], by omega, by go_num, by simp [hxl], FIN.out⟩
                  case measure => simp [intOf]; omega
                · go_simp
                  have SV : Hid (Below wr.heap.size wr (wr.drew.alloc (.cells #[.bool false, .slice Option.none 0 0, .slice Option.none 0 0, .slice Option.none 0 0, .slice Option.none 0 0] 32))) := Below.and SL.out (bel_new _ _)
                  have NV : Hid (BoxIs (wr.drew.alloc (.cells #[.bool false, .slice Option.none 0 0, .slice Option.none 0 0, .slice Option.none 0 0, .slice Option.none 0 0] 32)) wr.heap.size (.bool false) (.slice Option.none 0 0) (.slice Option.none 0 0) (.slice Option.none 0 0) (.slice Option.none 0 0)) := heap_alloc_new wr.drew (.cells #[.bool false, .slice Option.none 0 0, .slice Option.none 0 0, .slice Option.none 0 0, .slice Option.none 0 0] 32)
                  refine hK.out _ _ (KEEP.out _ SV.out) (fun hH2 => ?_)
                  clear hK K hH
                  have hH := hH2
                  clear hH2
                  try simp only [Act.put, List.setIfInBounds_toArray, List.set_cons_zero, List.set_cons_succ]
                  refine wpAnyH_ready (rs := [7]) (by kernel_rfl) (by simp) ?_
                  refine AllReadyH.cons (o := ⟨_, _, _, _, _, _⟩) rfl (fun K hK => ?_) AllReadyH.nil
                  refine (if_pos (show Region.wanted _ _ = true by kernel_rfl)).mpr ?_
                  refine end_call 18 [.tmp 47, .tmp 51, .tmp 53] #[37, 3, 3] rfl run_l6Read [.agg #[.slice (some ⟨bv, ov, Option.none⟩) l.length cv, vs], .int .i64 kv, .int .i64 (IntKind.i64.wrap (mo - 1))] rfl (HC.out _ SV.out) ?_
                  rintro e w5 ⟨⟨x, h5, h6⟩, b5⟩
                  subst h5
                  obtain ⟨xl, xp, xc, xk, xb⟩ := x
                  obtain ⟨⟨y1, k1, r1, hy1⟩, ⟨y2, k2, r2, hy2⟩, ⟨y3, k3, r3, hy3⟩, ⟨y4, k4, r4, hy4⟩, _⟩ := TreeD.slices h6
                  simp only at hy1 hy2 hy3 hy4
                  subst hy1 hy2 hy3 hy4
                  have bb5 : Below wr.heap.size wr w5 := Below.and SV.out b5
                  have QV := NV.out.chg (Chg.of_below (F := fun _ => False) b5) id
                  have gV := set5_chg w5 wr.heap.size (.bool xl) (.slice y1 k1 r1) (.slice y2 k2 r2) (.slice y3 k3 r3) (.slice y4 k4 r4)
                  have bb6 : Below wr.heap.size wr (set5 w5 wr.heap.size (.bool xl) (.slice y1 k1 r1) (.slice y2 k2 r2) (.slice y3 k3 r3) (.slice y4 k4 r4)) := bb5.trans (gV.below (fun g _ hg => by omega) bb5.size)
                  have Q6 : (set5 w5 wr.heap.size (.bool xl) (.slice y1 k1 r1) (.slice y2 k2 r2) (.slice y3 k3 r3) (.slice y4 k4 r4)).heap[wr.heap.size]? = some (.cells #[.bool xl, .slice y1 k1 r1, .slice y2 k2 r2, .slice y3 k3 r3, .slice y4 k4 r4] 32 (0, 0)) := QV.set (.bool xl) (.slice y1 k1 r1) (.slice y2 k2 r2) (.slice y3 k3 r3) (.slice y4 k4 r4)
                  have zV : (set5 w5 wr.heap.size (.bool xl) (.slice y1 k1 r1) (.slice y2 k2 r2) (.slice y3 k3 r3) (.slice y4 k4 r4)).heap.size = w5.heap.size := by simp [set5]
                  obtain ⟨cz0, cz1, cz2, cz3, cz4⟩ := QV.cell
                  have czf := QV.live
                  unfold set5 at bb6 Q6 zV gV
                  refine .inl ⟨_, rfl, ?_⟩
                  refine hK.out _ _ (KEEP.out _ bb5) (fun hH2 => ?_)
                  clear hK K hH
                  have hH := hH2
                  clear hH2
                  try simp only [Act.put, List.setIfInBounds_toArray, List.set_cons_zero, List.set_cons_succ]
                  refine wpAnyH_take (i := 8) (oi := ⟨_, _, _, _, _, _⟩) (v := ?_) rfl (by kernel_rfl) (by kernel_rfl) (by kernel_rfl) (fun _ _ _ h => h) (Or.inl ⟨by rfl, ?_⟩) (by assumption) ?_
                  rotate_left
                  · ((intro w hSw; (try dsimp only at hSw); go_simp); (try with_reducible rfl))
                  try simp only [Act.put, List.setIfInBounds_toArray, List.set_cons_zero, List.set_cons_succ]
                  refine wpAnyH_take (i := 9) (oi := ⟨_, _, _, _, _, _⟩) (v := ?_) rfl (by kernel_rfl) (by kernel_rfl) (by kernel_rfl) (fun _ _ _ h => h) (Or.inl ⟨by rfl, ?_⟩) (by assumption) ?_
                  rotate_left
                  · ((intro w hSw; (try dsimp only at hSw); go_simp); (try with_reducible rfl))
                  try simp only [Act.put, List.setIfInBounds_toArray, List.set_cons_zero, List.set_cons_succ]
                  refine wpAnyH_take (i := 10) (oi := ⟨_, _, _, _, _, _⟩) (v := ?_) rfl (by kernel_rfl) (by kernel_rfl) (by kernel_rfl) (fun _ _ _ h => h) (Or.inl ⟨by rfl, ?_⟩) (by assumption) ?_
                  rotate_left
                  · ((intro w hSw; (try dsimp only at hSw); go_simp); (try with_reducible rfl))
                  try simp only [Act.put, List.setIfInBounds_toArray, List.set_cons_zero, List.set_cons_succ]
                  refine wpAnyH_ready (rs := [12]) (by kernel_rfl) (by simp) ?_
                  refine AllReadyH.cons (o := ⟨_, _, _, _, _, _⟩) rfl (fun K hK => ?_) AllReadyH.nil
                  go_simp
                  refine hK.out _ _ (KEEP.out _ bb6) (fun hH2 => ?_)
                  clear hK K hH
                  have hH := hH2
                  clear hH2
                  try simp only [Act.put, List.setIfInBounds_toArray, List.set_cons_zero, List.set_cons_succ]
                  refine wpAnyH_take (i := 13) (oi := ⟨_, _, _, _, _, _⟩) (v := ?_) rfl (by kernel_rfl) (by kernel_rfl) (by kernel_rfl) (fun _ _ _ h => h) (Or.inl ⟨by rfl, ?_⟩) (by assumption) ?_
                  rotate_left
                  · ((intro w hSw; (try dsimp only at hSw); go_simp); (try with_reducible rfl))
                  try simp only [Act.put, List.setIfInBounds_toArray, List.set_cons_zero, List.set_cons_succ]
                  refine wpAnyH_done (by kernel_rfl) ?_ _
                  clear hH cz0 cz1 cz2 cz3 cz4 czf
                  have t6 : TreeD d' (((((w5.setCell ⟨wr.heap.size, 0, Option.none⟩ (.bool xl)).setCell ⟨wr.heap.size, 1, Option.none⟩ (.slice y1 k1 r1)).setCell ⟨wr.heap.size, 2, Option.none⟩ (.slice y2 k2 r2)).setCell ⟨wr.heap.size, 3, Option.none⟩ (.slice y3 k3 r3)).setCell ⟨wr.heap.size, 4, Option.none⟩ (.slice y4 k4 r4)) (Zone wr.heap.size (((((w5.setCell ⟨wr.heap.size, 0, Option.none⟩ (.bool xl)).setCell ⟨wr.heap.size, 1, Option.none⟩ (.slice y1 k1 r1)).setCell ⟨wr.heap.size, 2, Option.none⟩ (.slice y2 k2 r2)).setCell ⟨wr.heap.size, 3, Option.none⟩ (.slice y3 k3 r3)).setCell ⟨wr.heap.size, 4, Option.none⟩ (.slice y4 k4 r4)).heap.size) (TV.mk xl (.slice y1 k1 r1) (.slice y2 k2 r2) (.slice y3 k3 r3) (.slice y4 k4 r4)) t := (h6.chg gV (fun g hg e => by have := hg.1; simp at this; omega)).mono (fun g hg => ⟨by have := hg.1; simp at this; omega, by have := hg.2; rw [zV]; exact this⟩)
                  have Q7 : BoxIs (((((w5.setCell ⟨wr.heap.size, 0, Option.none⟩ (.bool xl)).setCell ⟨wr.heap.size, 1, Option.none⟩ (.slice y1 k1 r1)).setCell ⟨wr.heap.size, 2, Option.none⟩ (.slice y2 k2 r2)).setCell ⟨wr.heap.size, 3, Option.none⟩ (.slice y3 k3 r3)).setCell ⟨wr.heap.size, 4, Option.none⟩ (.slice y4 k4 r4)) wr.heap.size (.bool xl) (.slice y1 k1 r1) (.slice y2 k2 r2) (.slice y3 k3 r3) (.slice y4 k4 r4) := Q6
                  have P6 := II.out.2.2.2.2.chg (Chg.of_below (F := fun _ => False) bb6) id
                  generalize (((((w5.setCell ⟨wr.heap.size, 0, Option.none⟩ (.bool xl)).setCell ⟨wr.heap.size, 1, Option.none⟩ (.slice y1 k1 r1)).setCell ⟨wr.heap.size, 2, Option.none⟩ (.slice y2 k2 r2)).setCell ⟨wr.heap.size, 3, Option.none⟩ (.slice y3 k3 r3)).setCell ⟨wr.heap.size, 4, Option.none⟩ (.slice y4 k4 r4)) = W6 at *
                  obtain ⟨⟨z0, z1, z2, z3, z4⟩, zf, zst⟩ := slot_setQ (x := TV.mk xl (.slice y1 k1 r1) (.slice y2 k2 r2) (.slice y3 k3 r3) (.slice y4 k4 r4)) (owns_chg II.out.2.1 (Chg.of_below (F := fun _ => False) bb6) (fun _ _ e => e)) hlt hxl
                  have gT := setT_chg W6 M j (TV.mk xl (.slice y1 k1 r1) (.slice y2 k2 r2) (.slice y3 k3 r3) (.slice y4 k4 r4))
                  have zT := setT_size W6 M j (TV.mk xl (.slice y1 k1 r1) (.slice y2 k2 r2) (.slice y3 k3 r3) (.slice y4 k4 r4))
                  have hz6 : wr.heap.size ≤ W6.heap.size := bb6.size
                  have T6 := (II.out.1.snoc bb6 t6).chg gT (fun g hg => by omega) (by omega)
                  have C6 : Chg (fun g => g = M) W4 (setT W6 M j (TV.mk xl (.slice y1 k1 r1) (.slice y2 k2 r2) (.slice y3 k3 r3) (.slice y4 k4 r4))) := (II.out.2.2.1.trans (Chg.of_below (F := fun g => g = M) bb6) (fun _ _ e => e)).trans gT (fun _ _ e => e)
                  have z6 : W4.heap.size ≤ (setT W6 M j (TV.mk xl (.slice y1 k1 r1) (.slice y2 k2 r2) (.slice y3 k3 r3) (.slice y4 k4 r4))).heap.size := by have := II.out.2.2.2.1; omega
                  have FIN : Hid _ := And.intro HK.out (And.intro T6 (And.intro zst (And.intro C6 z6)))
                  obtain ⟨o0, o1, o2, o3, o4⟩ := Q7.cell
                  obtain ⟨p0, p1, p2, p3, p4⟩ := P6.cell
                  clear T6 zst C6 z6 gT zT KEEP HC h6 b5 bb5 bb6 t6 Q6 Q7 P6 ck
                  go_wp2
                  go_roundw
                  case rel => exact ⟨j + 1, xs ++ [TV.mk xl (.slice y1 k1 r1) (.slice y2 k2 r2) (.slice y3 k3 r3) (.slice y4 k4 r4)], ts ++ [t], by omega, by go_num, by simp [hxl], FIN.out⟩
                  case measure => simp [intOf]; omega
            · have hjl : j = f.kids.length := by omega
              rw [hjl, Nat.sub_self, List.replicate_zero, List.append_nil] at i3
              rw [hjl, List.take_length] at i1
              have hx5 : xs.length = f.kids.length := by omega
              have m1 := m1.chg i4 (fun g hg e => nep g hg e)
              have m2 := m2.chg i4 (fun g hg e => nec g hg e)
              have m4 := m4.chg i4 (fun g hg e => neb g hg e)
              have k5 : OwnE wr (w.heap.size + 3 + 1) 32 5 (.slice (some ⟨M, 0, Option.none⟩) f.kids.length q3) f.kids.length (flatT xs) := .inl i3
              rw [← hx5] at k5
              have s6 := set5_chg wr (w.heap.size + 1) (.bool false) (.slice a1 0 q1) (.slice a2 f.cuts.length q2) (.slice (some ⟨M, 0, Option.none⟩) f.kids.length q3) (.slice a4 f.buf.length q4)
              have x6 := XR.set (.bool false) (.slice a1 0 q1) (.slice a2 f.cuts.length q2) (.slice (some ⟨M, 0, Option.none⟩) f.kids.length q3) (.slice a4 f.buf.length q4)
              have z6 : wr.heap.size ≤ (set5 wr (w.heap.size + 1) (.bool false) (.slice a1 0 q1) (.slice a2 f.cuts.length q2) (.slice (some ⟨M, 0, Option.none⟩) f.kids.length q3) (.slice a4 f.buf.length q4)).heap.size := by simp [set5]
              have T6 := TreesD.forkS (low := w.heap.size) (i2.chg s6 (fun g hg => by omega) z6) (m1.chg s6 (fun g hg e => by have := (m1.lt g hg).1; omega)) (m2.chg s6 (fun g hg e => by have := (m2.lt g hg).1; omega)) (m4.chg s6 (fun g hg e => by have := (m4.lt g hg).1; omega)) (k5.chg s6 (fun g hg e => by have := (k5.lt g hg).1; omega)) (by omega) (by omega) (by omega) (fun g hg => by have := LT.out.1 g hg; omega) (fun g hg => by have := LT.out.2.1 g hg; omega) (fun g hg => by have := LT.out.2.2 g hg; omega) (by omega)
              rw [hx5] at T6
              have B6 := BR.trans (s6.below (fun g _ hg => by omega) BR.size)
              have HL : Hid _ := readR_fork (d := d') ha (by rw [HP.out]; exact hg)
              rw [i1] at HL
              obtain ⟨u0, u1, u2, u3, u4⟩ := PR.cell
              obtain ⟨o0, o1, o2, o3, o4⟩ := XR.cell
              have l5 := XR.live
              unfold set5 at x6 T6 B6
              obtain ⟨v0, v1, v2, v3, v4⟩ := x6.cell
              have HT : Hid _ := And.intro T6 B6
              clear T6 B6 x6 s6 z6 BR k5 m1 m2 m4 m5 nep nec neb X4 D4 P4 B4 HF i1 i2 i3 i4 i5 hI K4 XR DR PR p0 p1 p2 p3 p4
              go_wp2
              simp [bodyPost, results, Tryd.results18, go_sem, v0, v1, v2, v3, v4]
              rw [HL.out]
              exact ⟨⟨TV.mk false (.slice a1 0 q1) (.slice a2 f.cuts.length q2) (.slice (some ⟨M, 0, Option.none⟩) f.kids.length q3) (.slice a4 f.buf.length q4), by simp, HT.out.1⟩, HT.out.2⟩
    · have hin' : inB a 0 ((l.length : Int) - 1) = false := by simp only [inB, decide_eq_false_iff_not]; omega
      have HG : Hid (readR (pgB l) (d' + 1) a = none) := readR_out (by rw [pgB_length]; exact hin)
      go_enter Tryd.func18, Tryd.ntmps18
      go_upto_region 1 with fail
      rw [E2.out]
      have hl1 : (0 : Int) ≤ (l.length : Int) := by omega
      have hl2 : (l.length : Int) ≤ 9223372036854775807 := by omega
      go_wp2_with fail
      refine (l1In_any _ _ _ _).mono ?_
      rintro e w' ⟨rfl, rfl⟩
      rw [hin']
      go_wp2
      simp [bodyPost, results, Tryd.results18, go_sem, y0, y1, y2, y3, y4]
      exact ⟨RdD.none HG.out, HZ.out⟩

/-- the model's l6Read, at any depth -/
theorem l6Read_any (vp vs : Value) (l : List ByteArray) (hz : ∀ s ∈ l, s.size ≤ maxLen ∧ s.size ≤ 1099511627776) : ∀ (d : Nat), d ≤ 8 → ∀ (a : Int) (w : World), Row w vp l.length (flatS l) →
    Calls Tryd.prog 18 #[.agg #[vp, vs], .int .i64 a, .int .i64 (d : Int)] w fun e w' => RdD w.heap.size d (readR (pgB l) d a) e w' ∧ Below w.heap.size w w'
  | 0, h, a, w, hr => l6Read_step vp vs l hz 0 h a w hr (fun d' h => by omega)
  | d + 1, h8, a, w, hr => l6Read_step vp vs l hz (d + 1) h8 a w hr (fun d' h a' w' hr' => by
      have e : d = d' := by omega
      subst e
      exact l6Read_any vp vs l hz d (by omega) a' w' hr')

end Go.Proofs.YtckphbmlmjlipaaDoor
