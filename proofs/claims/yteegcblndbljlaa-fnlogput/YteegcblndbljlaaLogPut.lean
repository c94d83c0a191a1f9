/-
  LogPut of the program.
-/
import Derived.Test.YteegcblndbljlaaLogPutI
namespace Go.Proofs.Yteegcblndbljlaa
open Go.RowKit

set_option maxRecDepth 100000 in
set_option maxHeartbeats 8000000 in
theorem implLogPut_any (b bt : Int) (v : Value) (l : EL) (pr pt : Int) (v3 : Value) (l3 : EL) (w : World) (h : Row w v l.length (flatE l)) (h3 : Row w v3 l3.length (flatE l3)) (hb : I64 b) (hi : I64 pr) (hs : l.length + l3.length ≤ 2097152) :
    Calls Try.prog 15 #[lgV b bt v, .int .i64 pr, .int .i64 pt, v3] w fun e w' => ∃ v', e = .returned (.tuple #[lgV (putB b bt l) (putT b bt l) v', .bool (putK b bt l pr pt l3)]) ∧ w'.ownsRow w.heap.size 39 6 v' (putL b bt l pr pt l3).length (flatE (putL b bt l pr pt l3)) ∧ Below w.heap.size w w' := by
  have CO : Hid (∀ u, Below w.heap.size w u → Calls Try.prog 18 #[lgV b bt v] u fun e w' => e = .returned (.bool (logOkB b bt l)) ∧ Below u.heap.size u w') := fun u hu => implLogOk_any b bt v l u (Row.below h hu) (by omega)
  have CT : Hid (∀ u, Below w.heap.size w u → Calls Try.prog 20 #[lgV b bt v, .int .i64 pr] u fun e w' => e = .returned (.int .i64 (termB b bt l pr)) ∧ Below u.heap.size u w') := fun u hu => implTermAt_any b bt v l pr u (Row.below h hu) hb hi
  have CC : Hid (∀ u, Below w.heap.size w u → Calls Try.prog 51 #[lgV b bt v] u fun e w' => ∃ v', e = .returned (lgV b bt v') ∧ w'.ownsRow u.heap.size 39 6 v' l.length (flatE l) ∧ Below u.heap.size u w') := fun u hu => copyOfLog_any b bt v l u (Row.below h hu) (by omega)
  have R1 : Hid (∀ u, Below w.heap.size w u → Row u v l.length (flatE l)) := fun u hu => Row.below h hu
  have R3 : Hid (∀ u, Below w.heap.size w u → Row u v3 l3.length (flatE l3)) := fun u hu => Row.below h3 hu
  obtain ⟨a, bb, off, cap, rfl, hcap, hmax, -⟩ := h.ents
  obtain ⟨a3, bb3, off3, cap3, rfl, hcap3, hmax3, ha3, hy0, hy1, hy2, hy3, hy4, hy5⟩ := h3.ents
  unfold maxLen at hmax hmax3
  have N1 : Hid (MBox 26 ((w.alloc (.cells #[.int .i64 b, .int .i64 bt, .slice a l.length cap] 26)).alloc (.cells #[.int .i64 0, .int .i64 0, .slice none 0 0] 26)) w.heap.size #[.int .i64 b, .int .i64 bt, .slice a l.length cap]) := (MBox.start _ _ _).step (bel_nw _ _)
  have N2 : Hid (MBox 26 ((w.alloc (.cells #[.int .i64 b, .int .i64 bt, .slice a l.length cap] 26)).alloc (.cells #[.int .i64 0, .int .i64 0, .slice none 0 0] 26)) (w.heap.size + 1) #[.int .i64 0, .int .i64 0, .slice none 0 0]) := by
    have := MBox.start 26 (w.alloc (.cells #[.int .i64 b, .int .i64 bt, .slice a l.length cap] 26)) #[.int .i64 0, .int .i64 0, .slice none 0 0]
    rw [World.size_alloc] at this
    exact this
  have B2 : Hid (Below w.heap.size w ((w.alloc (.cells #[.int .i64 b, .int .i64 bt, .slice a l.length cap] 26)).alloc (.cells #[.int .i64 0, .int .i64 0, .slice none 0 0] 26))) := Below.and (bel_nw _ _) (bel_nw _ _)
  have ZZ : Hid (((w.alloc (.cells #[.int .i64 b, .int .i64 bt, .slice a l.length cap] 26)).alloc (.cells #[.int .i64 0, .int .i64 0, .slice none 0 0] 26)).heap.size = w.heap.size + 2) := by show _ = _; simp
  have c1 := N1.out.cells
  clear h h3 hb hi
  cases hok : logOkB b bt l with
  | false =>
    have E : Hid _ := put_bad (pr := pr) (pt := pt) (l3 := l3) hok
    rw [hok] at CO
    clear hok hy0 hy1 hy2 hy3 hy4 hy5 ha3
    go_enter Try.func15, Try.ntmps15
    go_wp2_with fail
    generalize ((w.alloc (.cells #[.int .i64 b, .int .i64 bt, .slice a l.length cap] 26)).alloc (.cells #[.int .i64 0, .int .i64 0, .slice none 0 0] 26)) = W at *
    refine (CO.out _ B2.out).mono ?_
    rintro e w1 ⟨rfl, b1⟩
    replace ZZ : Hid (w.heap.size + 2 ≤ W.heap.size) := by have := ZZ.out; show _ ≤ _; omega
    replace N1 : Hid (MBox 26 w1 w.heap.size #[.int .i64 b, .int .i64 bt, .slice a l.length cap]) := N1.out.step b1
    replace N2 : Hid (MBox 26 w1 (w.heap.size + 1) #[.int .i64 0, .int .i64 0, .slice none 0 0]) := N2.out.step b1
    replace B2 : Hid (Below w.heap.size w w1) := Below.and B2.out b1
    replace ZZ : Hid (w.heap.size + 2 ≤ w1.heap.size) := Nat.le_trans ZZ.out b1.size
    clear b1 c1
    have M2 := N2.out
    have m0 : w1.cell? ⟨w.heap.size + 1, 0, none⟩ = some (.int .i64 0) := cell_of_cells M2
    have m1 : w1.cell? ⟨w.heap.size + 1, 1, none⟩ = some (.int .i64 0) := cell_of_cells M2
    have m2 : w1.cell? ⟨w.heap.size + 1, 2, none⟩ = some (.slice none 0 0) := cell_of_cells M2
    have f0 : ∀ j, w1.frozen? ⟨w.heap.size + 1, j, none⟩ = false := fun j => frozen_of_cells M2
    have X := lg_all (.int .i64 0) (.int .i64 0) (.slice none 0 0) M2
    have ch := lg_all_chg w1 (w.heap.size + 1) (.int .i64 0) (.int .i64 0) (.slice none 0 0)
    have BF := B2.out.trans (ch.below (fun g _ hg => by omega) B2.out.size)
    have FIN : Hid (_ ∧ _ ∧ _) := And.intro X (And.intro (World.ownsRow_nil (((w1.setCell ⟨w.heap.size + 1, 0, none⟩ (.int .i64 0)).setCell ⟨w.heap.size + 1, 1, none⟩ (.int .i64 0)).setCell ⟨w.heap.size + 1, 2, none⟩ (.slice none 0 0)) w.heap.size 39 6) BF)
    clear M2 X ch BF
    go_wp2_with fail
    simp [bodyPost, results, Try.results15, go_sem, cell_of_cells FIN.out.1]
    exact ⟨_, ⟨⟨E.out.2.1.symm, E.out.2.2.1.symm, rfl⟩, by first | exact E.out.2.2.2 | exact E.out.2.2.2.symm⟩, by rw [E.out.1]; exact FIN.out.2.1, FIN.out.2.2⟩
  | true =>
    have HOK : Hid _ := hok
    rw [hok] at CO
    clear hok hy0 hy1 hy2 hy3 hy4 hy5 ha3
    go_enter Try.func15, Try.ntmps15
    go_wp2_with fail
    generalize ((w.alloc (.cells #[.int .i64 b, .int .i64 bt, .slice a l.length cap] 26)).alloc (.cells #[.int .i64 0, .int .i64 0, .slice none 0 0] 26)) = W at *
    refine (CO.out _ B2.out).mono ?_
    rintro e w1 ⟨rfl, b1⟩
    replace ZZ : Hid (w.heap.size + 2 ≤ W.heap.size) := by have := ZZ.out; show _ ≤ _; omega
    replace N1 : Hid (MBox 26 w1 w.heap.size #[.int .i64 b, .int .i64 bt, .slice a l.length cap]) := N1.out.step b1
    replace N2 : Hid (MBox 26 w1 (w.heap.size + 1) #[.int .i64 0, .int .i64 0, .slice none 0 0]) := N2.out.step b1
    replace B2 : Hid (Below w.heap.size w w1) := Below.and B2.out b1
    replace ZZ : Hid (w.heap.size + 2 ≤ w1.heap.size) := Nat.le_trans ZZ.out b1.size
    clear b1 c1
    have c1 := N1.out.cells
    by_cases h0 : pt < 0
    · have E : Hid _ := put_no (l3 := l3) HOK.out (.inl (show putC b bt l pr pt = false by unfold putC; simp; omega))
      have h0' : decide (pt < 0) = true := decide_eq_true h0
      clear c1
      have c1 := N1.out.cells
      go_wp2_with fail
      refine (CC.out _ B2.out).mono ?_
      rintro e wk ⟨vk, rfl, ok, bk⟩
      obtain ⟨ak, qk, hvk⟩ := owns_val ok
      subst hvk
      have zk := ZZ.out
      replace N1 : Hid (MBox 26 wk w.heap.size #[.int .i64 b, .int .i64 bt, .slice a l.length cap]) := N1.out.step bk
      replace N2 : Hid (MBox 26 wk (w.heap.size + 1) #[.int .i64 0, .int .i64 0, .slice none 0 0]) := N2.out.step bk
      replace B2 : Hid (Below w.heap.size w wk) := Below.and B2.out bk
      replace ZZ : Hid (w.heap.size + 2 ≤ wk.heap.size) := Nat.le_trans ZZ.out bk.size
      clear bk c1
      have M2 := N2.out
      have m0 : wk.cell? ⟨w.heap.size + 1, 0, none⟩ = some (.int .i64 0) := cell_of_cells M2
      have m1 : wk.cell? ⟨w.heap.size + 1, 1, none⟩ = some (.int .i64 0) := cell_of_cells M2
      have m2 : wk.cell? ⟨w.heap.size + 1, 2, none⟩ = some (.slice none 0 0) := cell_of_cells M2
      have f0 : ∀ j, wk.frozen? ⟨w.heap.size + 1, j, none⟩ = false := fun j => frozen_of_cells M2
      have X := lg_all (.int .i64 b) (.int .i64 bt) (.slice ak l.length qk) M2
      have ch := lg_all_chg wk (w.heap.size + 1) (.int .i64 b) (.int .i64 bt) (.slice ak l.length qk)
      have o3 := owns_mono (base' := w.heap.size) (owns_chg ok ch (fun g hg e => by have := (ok.lt g hg).1; omega)) (by omega)
      have BF := B2.out.trans (ch.below (fun g _ hg => by omega) B2.out.size)
      have FIN : Hid (_ ∧ _ ∧ _) := And.intro X (And.intro o3 BF)
      clear M2 X ch BF
      go_wp2_with fail
      simp [bodyPost, results, Try.results15, go_sem, cell_of_cells FIN.out.1]
      exact ⟨_, ⟨⟨E.out.2.1.symm, E.out.2.2.1.symm, rfl⟩, by first | exact E.out.2.2.2 | exact E.out.2.2.2.symm⟩, by rw [E.out.1]; exact FIN.out.2.1, FIN.out.2.2⟩
    · have h0' : decide (pt < 0) = false := decide_eq_false h0
      go_wp2_with fail
      refine (CT.out _ B2.out).mono ?_
      rintro e w2 ⟨rfl, b2⟩
      replace N1 : Hid (MBox 26 w2 w.heap.size #[.int .i64 b, .int .i64 bt, .slice a l.length cap]) := N1.out.step b2
      replace N2 : Hid (MBox 26 w2 (w.heap.size + 1) #[.int .i64 0, .int .i64 0, .slice none 0 0]) := N2.out.step b2
      replace B2 : Hid (Below w.heap.size w w2) := Below.and B2.out b2
      replace ZZ : Hid (w.heap.size + 2 ≤ w2.heap.size) := Nat.le_trans ZZ.out b2.size
      clear b2 c1
      have c1 := N1.out.cells
      generalize hte : termB b bt l pr = te at *
      by_cases hq : te = pt
      · have HC : Hid (putC b bt l pr pt = true) := by show _ = _; unfold putC; simp [hte, hq]; omega
        have hq' : (te != pt) = false := by simp [hq]
        have hat := putC_at HC.out
        have HAT : Hid (putX b l pr l3 = putS l (putAt b pr) l3 l3.length) := rfl
        obtain ⟨k, hk⟩ : ∃ k, putAt b pr = k := ⟨_, rfl⟩
        rw [hk] at hat HAT
        have hsub : pr - b = (k : Int) := hat.1
        have hkl : k ≤ l.length := hat.2
        clear hat hk hte hq
        have PF : Hid (∀ u, Below w.heap.size w u → Calls Try.prog 52 #[.slice a l.length cap, .int .i64 k, .slice a3 l3.length cap3] u fun e w' => ∃ v', e = .returned v' ∧ w'.ownsRow u.heap.size 39 6 v' (putX b l pr l3).length (flatE (putX b l pr l3)) ∧ Below u.heap.size u w') := fun u hu => by
          rw [HAT.out]
          exact putFrom_any _ _ l l3 k u (R1.out u hu) (R3.out u hu) hkl hs
        have hxl : (putX b l pr l3).length ≤ 2097152 := by rw [HAT.out]; have := (putS_len l k l3 hkl l3.length).2; omega
        have CO2 : Hid (∀ u V, Row u V (putX b l pr l3).length (flatE (putX b l pr l3)) → Calls Try.prog 18 #[lgV b bt V] u fun e w' => e = .returned (.bool (logOkB b bt (putX b l pr l3))) ∧ Below u.heap.size u w') := fun u V hV => implLogOk_any b bt V _ u hV (by omega)
        have EY : Hid (logOkB b bt (putX b l pr l3) = true → putL b bt l pr pt l3 = putX b l pr l3 ∧ putB b bt l = b ∧ putT b bt l = bt ∧ putK b bt l pr pt l3 = true) := fun hx => put_yes HOK.out HC.out hx
        have EN : Hid (logOkB b bt (putX b l pr l3) = false → putL b bt l pr pt l3 = l ∧ putB b bt l = b ∧ putT b bt l = bt ∧ putK b bt l pr pt l3 = false) := fun hx => put_no HOK.out (.inr hx)
        generalize putX b l pr l3 = X3 at *
        generalize hx3 : X3.length = n3 at *
        have HX3 : Hid _ := hx3
        clear hx3 HAT
        have bn := bel_nw w2 (.cells #[.int .i64 b, .int .i64 bt, .slice a l.length cap] 26)
        have c0 := N1.out.cells
        have N3 : Hid (MBox 26 (w2.alloc (.cells #[.int .i64 b, .int .i64 bt, .slice a l.length cap] 26)) w2.heap.size #[.int .i64 b, .int .i64 bt, .slice a l.length cap]) := MBox.start _ _ _
        have z2 := ZZ.out
        replace N1 : Hid (MBox 26 (w2.alloc (.cells #[.int .i64 b, .int .i64 bt, .slice a l.length cap] 26)) w.heap.size #[.int .i64 b, .int .i64 bt, .slice a l.length cap]) := N1.out.step bn
        replace N2 : Hid (MBox 26 (w2.alloc (.cells #[.int .i64 b, .int .i64 bt, .slice a l.length cap] 26)) (w.heap.size + 1) #[.int .i64 0, .int .i64 0, .slice none 0 0]) := N2.out.step bn
        replace B2 : Hid (Below w.heap.size w (w2.alloc (.cells #[.int .i64 b, .int .i64 bt, .slice a l.length cap] 26))) := Below.and B2.out bn
        replace ZZ : Hid (w.heap.size + 2 ≤ (w2.alloc (.cells #[.int .i64 b, .int .i64 bt, .slice a l.length cap] 26)).heap.size) := Nat.le_trans ZZ.out bn.size
        clear bn c1
        have c1 := N1.out.cells
        go_wp2_with fail
        clear c0
        generalize w2.alloc (.cells #[.int .i64 b, .int .i64 bt, .slice a l.length cap] 26) = W3 at *
        generalize hxo : w2.heap.size = xo at *
        have hxo2 : w.heap.size + 2 ≤ xo := z2
        clear hxo z2
        refine (PF.out _ B2.out).mono ?_
        rintro e w4 ⟨v4, rfl, o4, b4⟩
        obtain ⟨a4, q4, hv4⟩ := owns_val o4
        subst hv4
        have hlt3 : xo < W3.heap.size := (Array.getElem?_eq_some_iff.1 N3.out).1
        have O4 : Hid (w4.ownsRow (xo + 1) 39 6 (.slice a4 n3 q4) n3 (flatE X3)) := owns_mono o4 (by omega)
        have N4 : Hid (MBox 26 w4 xo #[.int .i64 b, .int .i64 bt, .slice a l.length cap]) := N3.out.step b4
        replace N1 : Hid (MBox 26 w4 w.heap.size #[.int .i64 b, .int .i64 bt, .slice a l.length cap]) := N1.out.step b4
        replace N2 : Hid (MBox 26 w4 (w.heap.size + 1) #[.int .i64 0, .int .i64 0, .slice none 0 0]) := N2.out.step b4
        replace B2 : Hid (Below w.heap.size w w4) := Below.and B2.out b4
        replace ZZ : Hid (w.heap.size + 2 ≤ w4.heap.size) := Nat.le_trans ZZ.out b4.size
        clear b4 c1 o4 N3
        have u2 := lg_last (.slice a4 n3 q4) N4.out
        have g3 := lg_last_chg w4 xo (.slice a4 n3 q4)
        have o5 := owns_chg O4.out g3 (fun g hg e => by have := (O4.out.lt g hg).1; omega)
        have k1 := row_chg N1.out g3 (by omega)
        have k2 := row_chg N2.out g3 (by omega)
        have k3 := B2.out.trans (g3.below (fun g _ hg => by omega) B2.out.size)
        have k4 : w.heap.size + 2 ≤ (w4.setCell ⟨xo, 2, none⟩ (.slice a4 n3 q4)).heap.size := by have := ZZ.out; simpa using this
        have f2 : ∀ j, w4.frozen? ⟨xo, j, none⟩ = false := fun j => frozen_of_cells N4.out
        have c2 : ∀ j, w4.cell? ⟨xo, j, none⟩ = (#[.int .i64 b, .int .i64 bt, .slice a l.length cap] : Array Value)[j]? := fun j => cell_of_cells N4.out
        have c3 : ∀ j, (w4.setCell ⟨xo, 2, none⟩ (.slice a4 n3 q4)).cell? ⟨xo, j, none⟩ = (#[.int .i64 b, .int .i64 bt, .slice a4 n3 q4] : Array Value)[j]? := fun j => cell_of_cells u2
        have N5 : Hid (MBox 26 (w4.setCell ⟨xo, 2, none⟩ (.slice a4 n3 q4)) xo #[.int .i64 b, .int .i64 bt, .slice a4 n3 q4]) := u2
        have O5 : Hid _ := o5
        replace N1 : Hid (MBox 26 (w4.setCell ⟨xo, 2, none⟩ (.slice a4 n3 q4)) w.heap.size #[.int .i64 b, .int .i64 bt, .slice a l.length cap]) := k1
        replace N2 : Hid (MBox 26 (w4.setCell ⟨xo, 2, none⟩ (.slice a4 n3 q4)) (w.heap.size + 1) #[.int .i64 0, .int .i64 0, .slice none 0 0]) := k2
        replace B2 : Hid (Below w.heap.size w (w4.setCell ⟨xo, 2, none⟩ (.slice a4 n3 q4))) := k3
        replace ZZ : Hid (w.heap.size + 2 ≤ (w4.setCell ⟨xo, 2, none⟩ (.slice a4 n3 q4)).heap.size) := k4
        clear u2 g3 o5 k1 k2 k3 k4 O4 N4
        go_wp2_with fail
        generalize w4.setCell ⟨xo, 2, none⟩ (.slice a4 n3 q4) = W5 at *
        clear c2 c3 f2
        refine (CO2.out _ _ (Row.of_owns O5.out)).mono ?_
        rintro e w6 ⟨rfl, b6⟩
        replace N5 : Hid (MBox 26 w6 xo #[.int .i64 b, .int .i64 bt, .slice a4 n3 q4]) := N5.out.step b6
        have O6 : Hid (w6.ownsRow (xo + 1) 39 6 (.slice a4 n3 q4) n3 (flatE X3)) := owns_below O5.out b6
        replace N1 : Hid (MBox 26 w6 w.heap.size #[.int .i64 b, .int .i64 bt, .slice a l.length cap]) := N1.out.step b6
        replace N2 : Hid (MBox 26 w6 (w.heap.size + 1) #[.int .i64 0, .int .i64 0, .slice none 0 0]) := N2.out.step b6
        replace B2 : Hid (Below w.heap.size w w6) := Below.and B2.out b6
        replace ZZ : Hid (w.heap.size + 2 ≤ w6.heap.size) := Nat.le_trans ZZ.out b6.size
        clear b6 O5
        have c1 := N1.out.cells
        cases hx : logOkB b bt X3 with
        | false =>
          have E : Hid _ := EN.out hx
          clear hx
          clear c1
          have c1 := N1.out.cells
          go_wp2_with fail
          refine (CC.out _ B2.out).mono ?_
          rintro e wk ⟨vk, rfl, ok, bk⟩
          obtain ⟨ak, qk, hvk⟩ := owns_val ok
          subst hvk
          have zk := ZZ.out
          replace N1 : Hid (MBox 26 wk w.heap.size #[.int .i64 b, .int .i64 bt, .slice a l.length cap]) := N1.out.step bk
          replace N2 : Hid (MBox 26 wk (w.heap.size + 1) #[.int .i64 0, .int .i64 0, .slice none 0 0]) := N2.out.step bk
          replace B2 : Hid (Below w.heap.size w wk) := Below.and B2.out bk
          replace ZZ : Hid (w.heap.size + 2 ≤ wk.heap.size) := Nat.le_trans ZZ.out bk.size
          clear bk c1
          have M2 := N2.out
          have m0 : wk.cell? ⟨w.heap.size + 1, 0, none⟩ = some (.int .i64 0) := cell_of_cells M2
          have m1 : wk.cell? ⟨w.heap.size + 1, 1, none⟩ = some (.int .i64 0) := cell_of_cells M2
          have m2 : wk.cell? ⟨w.heap.size + 1, 2, none⟩ = some (.slice none 0 0) := cell_of_cells M2
          have f0 : ∀ j, wk.frozen? ⟨w.heap.size + 1, j, none⟩ = false := fun j => frozen_of_cells M2
          have X := lg_all (.int .i64 b) (.int .i64 bt) (.slice ak l.length qk) M2
          have ch := lg_all_chg wk (w.heap.size + 1) (.int .i64 b) (.int .i64 bt) (.slice ak l.length qk)
          have o3 := owns_mono (base' := w.heap.size) (owns_chg ok ch (fun g hg e => by have := (ok.lt g hg).1; omega)) (by omega)
          have BF := B2.out.trans (ch.below (fun g _ hg => by omega) B2.out.size)
          have FIN : Hid (_ ∧ _ ∧ _) := And.intro X (And.intro o3 BF)
          clear M2 X ch BF
          go_wp2_with fail
          simp [bodyPost, results, Try.results15, go_sem, cell_of_cells FIN.out.1]
          exact ⟨_, ⟨⟨E.out.2.1.symm, E.out.2.2.1.symm, rfl⟩, by first | exact E.out.2.2.2 | exact E.out.2.2.2.symm⟩, by rw [E.out.1]; exact FIN.out.2.1, FIN.out.2.2⟩
        | true =>
          have E : Hid _ := EY.out hx
          have c5 := N5.out.cells
          clear hx c1
          have M2 := N2.out
          have m0 : w6.cell? ⟨w.heap.size + 1, 0, none⟩ = some (.int .i64 0) := cell_of_cells M2
          have m1 : w6.cell? ⟨w.heap.size + 1, 1, none⟩ = some (.int .i64 0) := cell_of_cells M2
          have m2 : w6.cell? ⟨w.heap.size + 1, 2, none⟩ = some (.slice none 0 0) := cell_of_cells M2
          have f0 : ∀ j, w6.frozen? ⟨w.heap.size + 1, j, none⟩ = false := fun j => frozen_of_cells M2
          have X := lg_all (.int .i64 b) (.int .i64 bt) (.slice a4 n3 q4) M2
          have ch := lg_all_chg w6 (w.heap.size + 1) (.int .i64 b) (.int .i64 bt) (.slice a4 n3 q4)
          have o3 := owns_mono (base' := w.heap.size) (owns_chg O6.out ch (fun g hg e => by have := (O6.out.lt g hg).1; omega)) (by omega)
          have BF := B2.out.trans (ch.below (fun g _ hg => by omega) B2.out.size)
          have FIN : Hid (_ ∧ _ ∧ _) := And.intro X (And.intro o3 BF)
          clear M2 X ch BF
          go_wp2_with fail
          simp [bodyPost, results, Try.results15, go_sem, cell_of_cells FIN.out.1]
          exact ⟨_, ⟨⟨E.out.2.1.symm, E.out.2.2.1.symm, rfl⟩, by first | exact E.out.2.2.2 | exact E.out.2.2.2.symm⟩, by rw [E.out.1, HX3.out]; exact FIN.out.2.1, FIN.out.2.2⟩
      · have E : Hid _ := put_no (l3 := l3) HOK.out (.inl (show putC b bt l pr pt = false by unfold putC; simp [hte]; intro _; exact hq))
        have hq' : (te != pt) = true := by simpa using hq
        clear c1
        have c1 := N1.out.cells
        go_wp2_with fail
        refine (CC.out _ B2.out).mono ?_
        rintro e wk ⟨vk, rfl, ok, bk⟩
        obtain ⟨ak, qk, hvk⟩ := owns_val ok
        subst hvk
        have zk := ZZ.out
        replace N1 : Hid (MBox 26 wk w.heap.size #[.int .i64 b, .int .i64 bt, .slice a l.length cap]) := N1.out.step bk
        replace N2 : Hid (MBox 26 wk (w.heap.size + 1) #[.int .i64 0, .int .i64 0, .slice none 0 0]) := N2.out.step bk
        replace B2 : Hid (Below w.heap.size w wk) := Below.and B2.out bk
        replace ZZ : Hid (w.heap.size + 2 ≤ wk.heap.size) := Nat.le_trans ZZ.out bk.size
        clear bk c1
        have M2 := N2.out
        have m0 : wk.cell? ⟨w.heap.size + 1, 0, none⟩ = some (.int .i64 0) := cell_of_cells M2
        have m1 : wk.cell? ⟨w.heap.size + 1, 1, none⟩ = some (.int .i64 0) := cell_of_cells M2
        have m2 : wk.cell? ⟨w.heap.size + 1, 2, none⟩ = some (.slice none 0 0) := cell_of_cells M2
        have f0 : ∀ j, wk.frozen? ⟨w.heap.size + 1, j, none⟩ = false := fun j => frozen_of_cells M2
        have X := lg_all (.int .i64 b) (.int .i64 bt) (.slice ak l.length qk) M2
        have ch := lg_all_chg wk (w.heap.size + 1) (.int .i64 b) (.int .i64 bt) (.slice ak l.length qk)
        have o3 := owns_mono (base' := w.heap.size) (owns_chg ok ch (fun g hg e => by have := (ok.lt g hg).1; omega)) (by omega)
        have BF := B2.out.trans (ch.below (fun g _ hg => by omega) B2.out.size)
        have FIN : Hid (_ ∧ _ ∧ _) := And.intro X (And.intro o3 BF)
        clear M2 X ch BF
        go_wp2_with fail
        simp [bodyPost, results, Try.results15, go_sem, cell_of_cells FIN.out.1]
        exact ⟨_, ⟨⟨E.out.2.1.symm, E.out.2.2.1.symm, rfl⟩, by first | exact E.out.2.2.2 | exact E.out.2.2.2.symm⟩, by rw [E.out.1]; exact FIN.out.2.1, FIN.out.2.2⟩

end Go.Proofs.Yteegcblndbljlaa
