/-
  LogPut of the model.
-/
import Derived.Test.YteegcblndbljlaaLogPut
import Derived.Test.YteegcblndbljlaaRegLast
namespace Go.Proofs.Yteegcblndbljlaa
open Go.RowKit

theorem wp_genE {P : Program} {code : Code} {Q : Exit → Act → World → Prop} {a : Act} {w0 : World} (S : World → Prop) (h0 : S w0) (h : ∀ W, S W → Code.wp P code Q a W) : Code.wp P code Q a w0 := h _ h0

set_option maxRecDepth 100000 in
set_option maxHeartbeats 8000000 in
theorem specLogPut_any (b bt : Int) (v : Value) (l : EL) (pr pt : Int) (v3 : Value) (l3 : EL) (w : World) (h : Row w v l.length (flatE l)) (h3 : Row w v3 l3.length (flatE l3)) (hb : I64 b) (hi : I64 pr) (hs : l.length + l3.length ≤ 2097152) :
    Calls Try.prog 16 #[lgV b bt v, .int .i64 pr, .int .i64 pt, v3] w fun e w' => ∃ v', e = .returned (.tuple #[lgV (putB b bt l) (putT b bt l) v', .bool (putK b bt l pr pt l3)]) ∧ OwnE w' w.heap.size 39 6 v' (putL b bt l pr pt l3).length (flatE (putL b bt l pr pt l3)) ∧ Below w.heap.size w w' := by
  have CO : Hid (∀ u, Below w.heap.size w u → Calls Try.prog 19 #[lgV b bt v] u fun e w' => e = .returned (.bool (logOkB b bt l)) ∧ Below u.heap.size u w') := fun u hu => specLogOk_any b bt v l u (Row.below h hu) (by omega)
  have CT : Hid (∀ u, Below w.heap.size w u → Calls Try.prog 28 #[lgV b bt v, .int .i64 pr] u fun e w' => e = .returned (.int .i64 (termB b bt l pr)) ∧ Below u.heap.size u w') := fun u hu => specTermAt_any b bt v l pr u (Row.below h hu) hb hi
  have CC : Hid (∀ u, Below w.heap.size w u → Calls Try.prog 53 #[lgV b bt v] u fun e w' => ∃ v', e = .returned (lgV b bt v') ∧ OwnE w' u.heap.size 39 6 v' l.length (flatE l) ∧ Below u.heap.size u w') := fun u hu => l8Copy_any b bt v l u (Row.below h hu) (by omega)
  have R1 : Hid (∀ u, Below w.heap.size w u → Row u v l.length (flatE l)) := fun u hu => Row.below h hu
  have R3 : Hid (∀ u, Below w.heap.size w u → Row u v3 l3.length (flatE l3)) := fun u hu => Row.below h3 hu
  obtain ⟨a, bb, off, cap, rfl, hcap, hmax, -⟩ := h.ents
  obtain ⟨a3, bb3, off3, cap3, rfl, hcap3, hmax3, ha3, hy0, hy1, hy2, hy3, hy4, hy5⟩ := h3.ents
  unfold maxLen at hmax hmax3
  have N1 : Hid (MBox 26 ((w.alloc (.cells #[.int .i64 b, .int .i64 bt, .slice a l.length cap] 26)).alloc (.cells #[.int .i64 0, .int .i64 0, .slice none 0 0] 26)) w.heap.size #[.int .i64 b, .int .i64 bt, .slice a l.length cap]) := (MBox.start _ _ _).step (bel_nw _ _)
  have N2 : Hid (MBox 26 ((w.alloc (.cells #[.int .i64 b, .int .i64 bt, .slice a l.length cap] 26)).alloc (.cells #[.int .i64 0, .int .i64 0, .slice none 0 0] 26)) (w.heap.size + 1) #[.int .i64 0, .int .i64 0, .slice none 0 0]) := by
    have := MBox.start 26 (w.alloc (.cells #[.int .i64 b, .int .i64 bt, .slice a l.length cap] 26)) #[.int .i64 0, .int .i64 0, .slice none 0 0]
    rw [World.size_alloc] at this
    exact this
  have B2 : Hid (Below w.heap.size w ((w.alloc (.cells #[.int .i64 b, .int .i64 bt, .slice a l.length cap] 26)).alloc (.cells #[.int .i64 0, .int .i64 0, .slice none 0 0] 26))) := Below.and (bel_nw _ _) (bel_nw _ _)
  have ZZ : Hid (((w.alloc (.cells #[.int .i64 b, .int .i64 bt, .slice a l.length cap] 26)).alloc (.cells #[.int .i64 0, .int .i64 0, .slice none 0 0] 26)).heap.size = w.heap.size + 2) := by show _ = _; simp
  have c1 := N1.out.cells
  clear h h3 hb hi
  obtain ⟨i0, hi0, hz0, hz1, hz2⟩ := info_parts Try.info39
  cases hok : logOkB b bt l with
  | false =>
    have E : Hid _ := put_bad (pr := pr) (pt := pt) (l3 := l3) hok
    rw [hok] at CO
    clear hok hy0 hy1 hy2 hy3 hy4 hy5 ha3
    go_enter Try.func16, Try.ntmps16
    go_wp2_with fail
    generalize ((w.alloc (.cells #[.int .i64 b, .int .i64 bt, .slice a l.length cap] 26)).alloc (.cells #[.int .i64 0, .int .i64 0, .slice none 0 0] 26)) = W at *
    refine (CO.out _ B2.out).mono ?_
    rintro e w1 ⟨rfl, b1⟩
    replace ZZ : Hid (w.heap.size + 2 ≤ W.heap.size) := by have := ZZ.out; show _ ≤ _; omega
    replace N1 : Hid (MBox 26 w1 w.heap.size #[.int .i64 b, .int .i64 bt, .slice a l.length cap]) := N1.out.step b1
    replace N2 : Hid (MBox 26 w1 (w.heap.size + 1) #[.int .i64 0, .int .i64 0, .slice none 0 0]) := N2.out.step b1
    replace B2 : Hid (Below w.heap.size w w1) := Below.and B2.out b1
    replace ZZ : Hid (w.heap.size + 2 ≤ w1.heap.size) := Nat.le_trans ZZ.out b1.size
    clear b1 c1
    have M2 := N2.out
    have m0 : w1.cell? ⟨w.heap.size + 1, 0, none⟩ = some (.int .i64 0) := cell_of_cells M2
    have m1 : w1.cell? ⟨w.heap.size + 1, 1, none⟩ = some (.int .i64 0) := cell_of_cells M2
    have m2 : w1.cell? ⟨w.heap.size + 1, 2, none⟩ = some (.slice none 0 0) := cell_of_cells M2
    have f0 : ∀ j, w1.frozen? ⟨w.heap.size + 1, j, none⟩ = false := fun j => frozen_of_cells M2
    have X := lg_all (.int .i64 0) (.int .i64 0) (.slice none 0 0) M2
    have ch := lg_all_chg w1 (w.heap.size + 1) (.int .i64 0) (.int .i64 0) (.slice none 0 0)
    have BF := B2.out.trans (ch.below (fun g _ hg => by omega) B2.out.size)
    have FIN : Hid (_ ∧ _ ∧ _) := And.intro X (And.intro (OwnE.nil (((w1.setCell ⟨w.heap.size + 1, 0, none⟩ (.int .i64 0)).setCell ⟨w.heap.size + 1, 1, none⟩ (.int .i64 0)).setCell ⟨w.heap.size + 1, 2, none⟩ (.slice none 0 0)) w.heap.size 39 6) BF)
    clear M2 X ch BF
    go_wp2_with fail
    simp [bodyPost, results, Try.results16, go_sem, cell_of_cells FIN.out.1]
    exact ⟨_, ⟨⟨E.out.2.1.symm, E.out.2.2.1.symm, rfl⟩, by first | exact E.out.2.2.2 | exact E.out.2.2.2.symm⟩, by rw [E.out.1]; exact FIN.out.2.1, FIN.out.2.2⟩
  | true =>
    have HOK : Hid _ := hok
    rw [hok] at CO
    clear hok
    go_enter Try.func16, Try.ntmps16
    go_wp2_with fail
    generalize ((w.alloc (.cells #[.int .i64 b, .int .i64 bt, .slice a l.length cap] 26)).alloc (.cells #[.int .i64 0, .int .i64 0, .slice none 0 0] 26)) = W at *
    refine (CO.out _ B2.out).mono ?_
    rintro e w1 ⟨rfl, b1⟩
    replace ZZ : Hid (w.heap.size + 2 ≤ W.heap.size) := by have := ZZ.out; show _ ≤ _; omega
    replace N1 : Hid (MBox 26 w1 w.heap.size #[.int .i64 b, .int .i64 bt, .slice a l.length cap]) := N1.out.step b1
    replace N2 : Hid (MBox 26 w1 (w.heap.size + 1) #[.int .i64 0, .int .i64 0, .slice none 0 0]) := N2.out.step b1
    replace B2 : Hid (Below w.heap.size w w1) := Below.and B2.out b1
    replace ZZ : Hid (w.heap.size + 2 ≤ w1.heap.size) := Nat.le_trans ZZ.out b1.size
    clear b1 c1
    have c1 := N1.out.cells
    go_wp2_with fail
    refine (CC.out _ B2.out).mono ?_
    rintro e w2 ⟨v2, rfl, o2, b2⟩
    obtain ⟨a5, q5, hv2⟩ := OwnE.slice o2
    subst hv2
    have bn := bel_nw w2 (.cells #[.int .i64 b, .int .i64 bt, .slice a5 l.length q5] 26)
    have zw := ZZ.out
    have zb : w1.heap.size ≤ w2.heap.size := b2.size
    replace N1 : Hid (MBox 26 w2 w.heap.size #[.int .i64 b, .int .i64 bt, .slice a l.length cap]) := N1.out.step b2
    replace N2 : Hid (MBox 26 w2 (w.heap.size + 1) #[.int .i64 0, .int .i64 0, .slice none 0 0]) := N2.out.step b2
    replace B2 : Hid (Below w.heap.size w w2) := Below.and B2.out b2
    replace ZZ : Hid (w.heap.size + 2 ≤ w2.heap.size) := Nat.le_trans ZZ.out b2.size
    replace N1 : Hid (MBox 26 (w2.alloc (.cells #[.int .i64 b, .int .i64 bt, .slice a5 l.length q5] 26)) w.heap.size #[.int .i64 b, .int .i64 bt, .slice a l.length cap]) := N1.out.step bn
    replace N2 : Hid (MBox 26 (w2.alloc (.cells #[.int .i64 b, .int .i64 bt, .slice a5 l.length q5] 26)) (w.heap.size + 1) #[.int .i64 0, .int .i64 0, .slice none 0 0]) := N2.out.step bn
    replace B2 : Hid (Below w.heap.size w (w2.alloc (.cells #[.int .i64 b, .int .i64 bt, .slice a5 l.length q5] 26))) := Below.and B2.out bn
    replace ZZ : Hid (w.heap.size + 2 ≤ (w2.alloc (.cells #[.int .i64 b, .int .i64 bt, .slice a5 l.length q5] 26)).heap.size) := Nat.le_trans ZZ.out bn.size
    have NO : Hid (MBox 26 (w2.alloc (.cells #[.int .i64 b, .int .i64 bt, .slice a5 l.length q5] 26)) w2.heap.size #[.int .i64 b, .int .i64 bt, .slice a5 l.length q5]) := MBox.start _ _ _
    have OE : Hid (OwnE (w2.alloc (.cells #[.int .i64 b, .int .i64 bt, .slice a5 l.length q5] 26)) w.heap.size 39 6 (.slice a5 l.length q5) l.length (flatE l)) := (o2.below bn).mono (by omega)
    clear b2 bn o2 c1
    have c1 := N1.out.cells
    have cO := NO.out.cells
    have hxo2 : w.heap.size + 2 ≤ w2.heap.size := by omega
    clear zb zw
    by_cases h0 : pt < 0
    · have E : Hid _ := put_no (l3 := l3) HOK.out (.inl (show putC b bt l pr pt = false by unfold putC; simp; omega))
      have h0' : decide (pt < 0) = true := decide_eq_true h0
      clear hy0 hy1 hy2 hy3 hy4 hy5 ha3
      generalize hV3 : w2.alloc (.cells #[.int .i64 b, .int .i64 bt, .slice a5 l.length q5] 26) = V3 at *
      have M2 := N2.out
      have m0 : V3.cell? ⟨w.heap.size + 1, 0, none⟩ = some (.int .i64 0) := cell_of_cells M2
      have m1 : V3.cell? ⟨w.heap.size + 1, 1, none⟩ = some (.int .i64 0) := cell_of_cells M2
      have m2 : V3.cell? ⟨w.heap.size + 1, 2, none⟩ = some (.slice none 0 0) := cell_of_cells M2
      have f0 : ∀ j, V3.frozen? ⟨w.heap.size + 1, j, none⟩ = false := fun j => frozen_of_cells M2
      have X := lg_all (.int .i64 b) (.int .i64 bt) (.slice a5 l.length q5) M2
      have ch := lg_all_chg V3 (w.heap.size + 1) (.int .i64 b) (.int .i64 bt) (.slice a5 l.length q5)
      have o3 := OwnE.chg OE.out ch (fun g hg => ownE_apart OE.out M2 (by decide) hg)
      have BF := B2.out.trans (ch.below (fun g _ hg => by omega) B2.out.size)
      have FIN : Hid (_ ∧ _ ∧ _) := And.intro X (And.intro o3 BF)
      clear M2 X ch BF o3
      rw [← hV3] at c1 cO m0 m1 m2 f0 FIN
      clear hV3
      go_wp2_with fail
      simp [bodyPost, results, Try.results16, go_sem, cell_of_cells FIN.out.1]
      exact ⟨_, ⟨⟨E.out.2.1.symm, E.out.2.2.1.symm, rfl⟩, by first | exact E.out.2.2.2 | exact E.out.2.2.2.symm⟩, by rw [E.out.1]; exact FIN.out.2.1, FIN.out.2.2⟩
    · have h0' : decide (pt < 0) = false := decide_eq_false h0
      go_wp2_with fail
      clear c1 cO
      generalize w2.alloc (.cells #[.int .i64 b, .int .i64 bt, .slice a5 l.length q5] 26) = W3 at *
      generalize w2.heap.size = xo at *
      refine (CT.out _ B2.out).mono ?_
      rintro e w3 ⟨rfl, b3⟩
      replace NO : Hid (MBox 26 w3 xo #[.int .i64 b, .int .i64 bt, .slice a5 l.length q5]) := NO.out.step b3
      replace OE : Hid (OwnE w3 w.heap.size 39 6 (.slice a5 l.length q5) l.length (flatE l)) := OwnE.below OE.out b3
      replace N1 : Hid (MBox 26 w3 w.heap.size #[.int .i64 b, .int .i64 bt, .slice a l.length cap]) := N1.out.step b3
      replace N2 : Hid (MBox 26 w3 (w.heap.size + 1) #[.int .i64 0, .int .i64 0, .slice none 0 0]) := N2.out.step b3
      replace B2 : Hid (Below w.heap.size w w3) := Below.and B2.out b3
      replace ZZ : Hid (w.heap.size + 2 ≤ w3.heap.size) := Nat.le_trans ZZ.out b3.size
      clear b3
      have c1 := N1.out.cells
      have cO := NO.out.cells
      generalize hte : termB b bt l pr = te at *
      by_cases hq : te = pt
      · have HC : Hid (putC b bt l pr pt = true) := by show _ = _; unfold putC; simp [hte, hq]; omega
        have hq' : (te != pt) = false := by simp [hq]
        have hat := putC_at HC.out
        have HAT : Hid (putX b l pr l3 = putS l (putAt b pr) l3 l3.length) := rfl
        obtain ⟨k, hk⟩ : ∃ k, putAt b pr = k := ⟨_, rfl⟩
        rw [hk] at hat HAT
        have hsub : pr - b = (k : Int) := hat.1
        have hkl : k ≤ l.length := hat.2
        clear hat hk hte hq
        go_wp2_with fail
        clear c1 cO
        go_loopw [11] (fun c wr => ∃ (j n : Nat) (ax : Option Addr) (qx : Nat), j ≤ l3.length ∧ c = .int .i64 j ∧ Hid ((putS l k l3 j).length = n) ∧ Hid (MBox 26 wr xo #[.int .i64 b, .int .i64 bt, .slice ax n qx]) ∧ Hid (MBox 26 wr w.heap.size #[.int .i64 b, .int .i64 bt, .slice a l.length cap]) ∧ Hid (MBox 26 wr (w.heap.size + 1) #[.int .i64 0, .int .i64 0, .slice none 0 0]) ∧ Hid (OwnE wr w.heap.size 39 6 (.slice ax n qx) n (flatE (putS l k l3 j))) ∧ Hid (Below w.heap.size w wr))
          (fun c _ => l3.length - (intOf c).toNat)
        case atStart => exact ⟨0, l.length, a5, q5, Nat.zero_le _, rfl, rfl, NO.out, N1.out, N2.out, OE.out, B2.out⟩
        case round =>
          clear NO N1 N2 OE B2 ZZ
          obtain ⟨j, n, ax, qx, hjl, rfl, HN, NO, N1, N2, OE, HB⟩ := hrel
          have hnn := (putS_len l k l3 hkl j).1
          have hnm := (putS_len l k l3 hkl j).2
          rw [HN.out] at hnn hnm
          by_cases hlt : j < l3.length
          · have hal3 := ha3 (by omega)
            subst hal3
            have hl3 : bb3 < w.heap.size := by have := cell_lt (hy0 j hlt); exact this
            have e0 : wr.cell? ⟨bb3, off3 + j * 6, none⟩ = some (.int .i64 (eT l3 j)) := (HB.out.cell (by exact hl3)).trans (hy0 j hlt)
            obtain ⟨kj, hkj⟩ : ∃ kj : Nat, k + j = kj := ⟨_, rfl⟩
            have hkj2 : (k : Int) + (j : Int) = (kj : Int) := by omega
            have c1 := N1.out.cells
            have cO := NO.out.cells
            by_cases hin : kj < n
            · have RR : Row wr (.slice ax n qx) (putS l k l3 j).length (flatE (putS l k l3 j)) := by rw [HN.out]; exact OwnE.rowE OE.out
              obtain ⟨a', b', off', cap', hv', hc1, hc2, ha', hz0', -⟩ := RR.ents
              have ha'' := ha' (by rw [HN.out]; omega)
              have d0 := hz0' kj (by rw [HN.out]; exact hin)
              simp at hv'
              obtain ⟨rfl, hq1, rfl⟩ := hv'
              subst ha''
              rw [HN.out] at hc1
              have HPART := RR
              clear RR hz0' ha' hq1
              have hin' : (kj : Int) < (n : Int) := by omega
              by_cases hte : eT (putS l k l3 j) kj = eT l3 j
              · have HNEW : Hid (putS l k l3 (j + 1) = putS l k l3 j) := putS_same (by rw [HN.out]; omega) (by rw [hkj]; exact hte)
                have hte' : (eT (putS l k l3 j) kj == eT l3 j) = true := by simpa using hte
                clear hte HPART hkj hy0 hy1 hy2 hy3 hy4 hy5
                generalize eT (putS l k l3 j) kj = t0 at *
                go_wp2_with fail
                go_quiet (fail)
                go_wp2
                go_roundw
                case rel => exact ⟨j + 1, n, _, qx, by omega, by go_num, by rw [HNEW.out]; exact HN.out, NO.out.step (below_drewN (Below.refl _ _) _), N1.out.step (below_drewN (Below.refl _ _) _), N2.out.step (below_drewN (Below.refl _ _) _), by rw [HNEW.out]; exact OwnE.below OE.out (below_drewN (Below.refl _ _) _), below_drewN HB.out _⟩
                case measure => simp [intOf]; omega
              · have hte' : (eT (putS l k l3 j) kj == eT l3 j) = false := by simpa using hte
                have HNEW : Hid (putS l k l3 (j + 1) = (putS l k l3 j).take kj ++ [(eT l3 j, eC l3 j, eS l3 j, eO l3 j, eK l3 j, eV l3 j)]) := by
                  have := putS_cut (c := l) (k := k) (l3 := l3) (j := j) (by rw [HN.out]; omega) (by rw [hkj]; exact hte)
                  rw [hkj] at this
                  exact this
                have HN2 : Hid ((putS l k l3 (j + 1)).length = kj + 1) := by
                  have h9 := HN.out
                  show _ = _
                  rw [HNEW.out, List.length_append, List.length_take]; simp; omega
                have RM : Hid _ := room_of (n := kj) (bytes := 48) (by omega) (by decide)
                have RZ : Hid _ := room_rowE (n := kj) (bytes := 48) (by omega) (by decide)
                have hq0 : ¬ qx = 0 := by omega
                have RP : Hid (Row wr (.slice (some ⟨b', off', none⟩) kj qx) kj (flatE ((putS l k l3 j).take kj))) := by
                  have h9 : Row wr (.slice (some ⟨b', off', none⟩) (putS l k l3 j).length qx) (putS l k l3 j).length (flatE (putS l k l3 j)) := by rw [HN.out]; exact OwnE.rowE OE.out
                  have := h9.part (i := 0) (j := kj) (m := qx) (Nat.zero_le _) (by rw [HN.out]; omega) (by omega) (Nat.le_refl _)
                  rw [if_neg hq0] at this
                  show Row _ _ _ _
                  simpa [Addr.add] using this
                have HLT : Hid ((flatE ((putS l k l3 j).take kj)).length = kj * 6) := by
                  have h9 := HN.out
                  show _ = _
                  rw [flatE_length, List.length_take]; congr 1; omega
                clear hte HPART hkj
                generalize eT (putS l k l3 j) kj = t0 at *
                go_wp2_with fail
                go_quiet (fail)
                clear c1 cO d0 e0
                have b5 := below_drewN (Below.refl wr.heap.size wr) nq
                have no5 := NO.out.step b5
                have n15 := N1.out.step b5
                have n25 := N2.out.step b5
                generalize wr.drewN nq = W5 at *
                have bn := bel_nw W5 (.cells #[] 39)
                have RP5 : Hid (Row (W5.alloc (.cells #[] 39)) (.slice (some ⟨b', off', none⟩) kj qx) kj (flatE ((putS l k l3 j).take kj))) := (Row.below RP.out b5).below bn
                replace HB : Hid (Below w.heap.size w (W5.alloc (.cells #[] 39))) := Below.and (Below.and HB.out b5) bn
                replace NO : Hid (MBox 26 (W5.alloc (.cells #[] 39)) xo #[.int .i64 b, .int .i64 bt, .slice (some ⟨b', off', none⟩) n qx]) := no5.step bn
                replace N1 : Hid (MBox 26 (W5.alloc (.cells #[] 39)) w.heap.size #[.int .i64 b, .int .i64 bt, .slice a l.length cap]) := n15.step bn
                replace N2 : Hid (MBox 26 (W5.alloc (.cells #[] 39)) (w.heap.size + 1) #[.int .i64 0, .int .i64 0, .slice none 0 0]) := n25.step bn
                clear no5 n15 n25 b5 bn OE RP
                have cO := NO.out.cells
                go_wp2_with (at_builtin; refine list_appE (W5.alloc (.cells #[] 39)) rfl _ _ 24 rfl w.heap.size 39 i0 _ 6 48 Try.underlying24 hi0 hz0 hz1 hz2 rfl (by decide) (.slice (some ⟨W5.heap.size, 0, none⟩) 0 0) 0 [] rfl (OwnE.zero _ _ _ _ _) (.slice (some ⟨b', off', none⟩) kj qx) kj (flatE ((putS l k l3 j).take kj)) rfl RP5.out HLT.out (flatE_one _) RZ.out.1 RZ.out.2 HB.out.size ?_)
                generalize W5.alloc (.cells #[] 39) = W6 at *
                intro v6 x6 AP
                obtain ⟨ap6, cp6, bp6, -⟩ := AP
                have ap7 : OwnE x6 w.heap.size 39 6 v6 kj (flatE ((putS l k l3 j).take kj)) := by simpa using ap6
                obtain ⟨a6, q6, hv6⟩ := OwnE.slice ap7
                subst hv6
                have bx6 : Below W6.heap.size W6 x6 := cp6.below (fun g _ h => absurd h (wrB_zero _ _)) (Nat.le_refl _)
                have no6 := NO.out.step bx6
                have n16 := N1.out.step bx6
                have n26 := N2.out.step bx6
                have hb6 := Below.and HB.out bx6
                have s0 : ∀ j, x6.cell? ⟨xo, j, none⟩ = (#[.int .i64 b, .int .i64 bt, .slice (some ⟨b', off', none⟩) n qx] : Array Value)[j]? := no6.cells
                have sf : ∀ j, x6.frozen? ⟨xo, j, none⟩ = false := fun j => frozen_of_cells no6
                have no7 := lg_last (.slice a6 kj q6) no6
                have ch := lg_last_chg x6 xo (.slice a6 kj q6)
                have n17 := row_chg n16 ch (by omega)
                have n27 := row_chg n26 ch (by omega)
                have oe7 := OwnE.chg ap7 ch (fun g hg => ownE_apart ap7 no6 (by decide) hg)
                have hb7 := hb6.trans (ch.below (fun g _ hg => by omega) hb6.size)
                replace NO : Hid (MBox 26 (x6.setCell ⟨xo, 2, none⟩ (.slice a6 kj q6)) xo #[.int .i64 b, .int .i64 bt, .slice a6 kj q6]) := no7
                replace N1 : Hid (MBox 26 (x6.setCell ⟨xo, 2, none⟩ (.slice a6 kj q6)) w.heap.size #[.int .i64 b, .int .i64 bt, .slice a l.length cap]) := n17
                replace N2 : Hid (MBox 26 (x6.setCell ⟨xo, 2, none⟩ (.slice a6 kj q6)) (w.heap.size + 1) #[.int .i64 0, .int .i64 0, .slice none 0 0]) := n27
                have OE : Hid (OwnE (x6.setCell ⟨xo, 2, none⟩ (.slice a6 kj q6)) w.heap.size 39 6 (.slice a6 kj q6) kj (flatE ((putS l k l3 j).take kj))) := oe7
                replace HB : Hid (Below w.heap.size w (x6.setCell ⟨xo, 2, none⟩ (.slice a6 kj q6))) := hb7
                clear ap6 cp6 bp6 ap7 bx6 no6 n16 n26 hb6 no7 ch n17 n27 oe7 hb7 cO RP5
                go_wp2_with fail
                clear s0 sf
                generalize x6.setCell ⟨xo, 2, none⟩ (.slice a6 kj q6) = U7 at *
                have KEEP : Hid (∀ u, Below U7.heap.size U7 u → (fun u => u.cell? ⟨xo, 2, none⟩ = some (.slice a6 kj q6) ∧ u.cell? ⟨bb3, off3 + j * 6, none⟩ = some (.int .i64 (eT l3 j)) ∧ u.cell? ⟨bb3, off3 + j * 6 + 1, none⟩ = some (.int .i64 (eC l3 j)) ∧ u.cell? ⟨bb3, off3 + j * 6 + 2, none⟩ = some (.int .i64 (eS l3 j)) ∧ u.cell? ⟨bb3, off3 + j * 6 + 3, none⟩ = some (.int .i64 (eO l3 j)) ∧ u.cell? ⟨bb3, off3 + j * 6 + 4, none⟩ = some (.int .i64 (eK l3 j)) ∧ u.cell? ⟨bb3, off3 + j * 6 + 5, none⟩ = some (.int .i64 (eV l3 j))) u) := fun u hu => by
                  have k := (NO.out.step hu).cells
                  have kb := Below.and HB.out hu
                  exact ⟨k 2, (kb.cell (by exact hl3)).trans (hy0 j hlt), (kb.cell (by exact hl3)).trans (hy1 j hlt), (kb.cell (by exact hl3)).trans (hy2 j hlt), (kb.cell (by exact hl3)).trans (hy3 j hlt), (kb.cell (by exact hl3)).trans (hy4 j hlt), (kb.cell (by exact hl3)).trans (hy5 j hlt)⟩
                have SL : Hid (Below U7.heap.size U7 U7.drew) := (Below.refl _ _).drew
                have hS0 := KEEP.out _ SL.out
                refine wp_region_last (fun u => u.cell? ⟨xo, 2, none⟩ = some (.slice a6 kj q6) ∧ u.cell? ⟨bb3, off3 + j * 6, none⟩ = some (.int .i64 (eT l3 j)) ∧ u.cell? ⟨bb3, off3 + j * 6 + 1, none⟩ = some (.int .i64 (eC l3 j)) ∧ u.cell? ⟨bb3, off3 + j * 6 + 2, none⟩ = some (.int .i64 (eS l3 j)) ∧ u.cell? ⟨bb3, off3 + j * 6 + 3, none⟩ = some (.int .i64 (eO l3 j)) ∧ u.cell? ⟨bb3, off3 + j * 6 + 4, none⟩ = some (.int .i64 (eK l3 j)) ∧ u.cell? ⟨bb3, off3 + j * 6 + 5, none⟩ = some (.int .i64 (eV l3 j))) [_, _, _, _, _, _, _, _, _] _ rfl (by kernel_rfl) (by kernel_rfl) ?_
                refine wpAnyH_take (i := 0) (oi := ⟨_, _, _, _, _, _⟩) (v := ?_) rfl (by kernel_rfl) (by kernel_rfl) (by kernel_rfl) (fun _ _ _ h => h) (Or.inl ⟨by rfl, ?_⟩) (by assumption) ?_
                rotate_left
                · ((intro w hSw; (try dsimp only at hSw); go_simp); (try with_reducible rfl))
                try simp only [Act.put, List.setIfInBounds_toArray, List.set_cons_zero, List.set_cons_succ]
                refine wpAnyH_take (i := 1) (oi := ⟨_, _, _, _, _, _⟩) (v := ?_) rfl (by kernel_rfl) (by kernel_rfl) (by kernel_rfl) (fun _ _ _ h => h) (Or.inl ⟨by rfl, ?_⟩) (by assumption) ?_
                rotate_left
                · ((intro w hSw; (try dsimp only at hSw); go_simp); (try with_reducible rfl))
                try simp only [Act.put, List.setIfInBounds_toArray, List.set_cons_zero, List.set_cons_succ]
                refine wpAnyH_take (i := 2) (oi := ⟨_, _, _, _, _, _⟩) (v := ?_) rfl (by kernel_rfl) (by kernel_rfl) (by kernel_rfl) (fun _ _ _ h => h) (Or.inl ⟨by rfl, ?_⟩) (by assumption) ?_
                rotate_left
                · ((intro w hSw; (try dsimp only at hSw); go_simp); (try with_reducible rfl))
                try simp only [Act.put, List.setIfInBounds_toArray, List.set_cons_zero, List.set_cons_succ]
                refine wpAnyH_take (i := 3) (oi := ⟨_, _, _, _, _, _⟩) (v := ?_) rfl (by kernel_rfl) (by kernel_rfl) (by kernel_rfl) (fun _ _ _ h => h) (Or.inl ⟨by rfl, ?_⟩) (by assumption) ?_
                rotate_left
                · ((intro w hSw; (try dsimp only at hSw); go_simp); (try with_reducible rfl))
                try simp only [Act.put, List.setIfInBounds_toArray, List.set_cons_zero, List.set_cons_succ]
                refine wpAnyH_take (i := 4) (oi := ⟨_, _, _, _, _, _⟩) (v := ?_) rfl (by kernel_rfl) (by kernel_rfl) (by kernel_rfl) (fun _ _ _ h => h) (Or.inl ⟨by rfl, ?_⟩) (by assumption) ?_
                rotate_left
                · ((intro w hSw; (try dsimp only at hSw); go_simp); (try with_reducible rfl))
                try simp only [Act.put, List.setIfInBounds_toArray, List.set_cons_zero, List.set_cons_succ]
                refine wpAnyH_take (i := 5) (oi := ⟨_, _, _, _, _, _⟩) (v := ?_) rfl (by kernel_rfl) (by kernel_rfl) (by kernel_rfl) (fun _ _ _ h => h) (Or.inl ⟨by rfl, ?_⟩) (by assumption) ?_
                rotate_left
                · ((intro w hSw; (try dsimp only at hSw); go_simp); (try with_reducible rfl))
                try simp only [Act.put, List.setIfInBounds_toArray, List.set_cons_zero, List.set_cons_succ]
                refine wpAnyH_ready (rs := [6]) (by kernel_rfl) (by simp) ?_
                refine AllReadyH.cons (o := ⟨_, _, _, _, _, _⟩) rfl (fun K hK => ?_) AllReadyH.nil
                go_simp
                have SL2 : Hid (Below U7.heap.size U7 ((U7.alloc (.cells #[.int .i64 (eT l3 j), .int .i64 (eC l3 j), .int .i64 (eS l3 j), .int .i64 (eO l3 j), .int .i64 (eK l3 j), .int .i64 (eV l3 j)] 39)).drew)) := (bel_nw _ _).drew
                have HX : Hid (((U7.alloc (.cells #[.int .i64 (eT l3 j), .int .i64 (eC l3 j), .int .i64 (eS l3 j), .int .i64 (eO l3 j), .int .i64 (eK l3 j), .int .i64 (eV l3 j)] 39)).drew).heap[U7.heap.size]? = some (.cells (flatE [(eT l3 j, eC l3 j, eS l3 j, eO l3 j, eK l3 j, eV l3 j)]).toArray 39 (0, 0))) := heap_alloc_new U7 _
                refine hK.out _ _ (KEEP.out _ SL2.out) (fun hH => ?_)
                clear hK K hS0
                try simp only [Act.put, List.setIfInBounds_toArray, List.set_cons_zero, List.set_cons_succ]
                generalize ((U7.alloc (.cells #[.int .i64 (eT l3 j), .int .i64 (eC l3 j), .int .i64 (eS l3 j), .int .i64 (eO l3 j), .int .i64 (eK l3 j), .int .i64 (eV l3 j)] 39)).drew) = U2 at *
                refine wpAnyH_ready (rs := [7]) (by kernel_rfl) (by simp) ?_
                refine AllReadyH.cons (o := ⟨_, _, _, _, _, _⟩) rfl (fun K hK => ?_) AllReadyH.nil
                refine step_appE U2 rfl _ _ 24 rfl w.heap.size 39 i0 _ 6 48 Try.underlying24 hi0 hz0 hz1 hz2 rfl (by decide) (.slice a6 kj q6) kj (flatE ((putS l k l3 j).take kj)) rfl (OwnE.below OE.out SL2.out) (.slice (some ⟨U7.heap.size, 0, none⟩) 1 1) 1 (flatE [(eT l3 j, eC l3 j, eS l3 j, eO l3 j, eK l3 j, eV l3 j)]) rfl (Row.of_box HX.out (by decide)) rfl (flatE_one _) RM.out.1 RM.out.2 (Nat.le_trans HB.out.size SL2.out.size) ?_
                intro v' x AP
                obtain ⟨ap, cp, bp, _⟩ := AP
                rw [← flatE_append] at ap
                obtain ⟨a9, q9, hv9⟩ := OwnE.slice ap
                subst hv9
                have oe2 := OwnE.below OE.out SL2.out
                have no2 := NO.out.step SL2.out
                have n12 := N1.out.step SL2.out
                have n22 := N2.out.step SL2.out
                have no3 : MBox 26 x xo #[.int .i64 b, .int .i64 bt, .slice a6 kj q6] := row_chg no2 cp (fun hw => ownE_apart oe2 no2 (by decide) hw rfl)
                have n13 : MBox 26 x w.heap.size #[.int .i64 b, .int .i64 bt, .slice a l.length cap] := row_chg n12 cp (fun hw => ownE_apart oe2 n12 (by decide) hw rfl)
                have n23 : MBox 26 x (w.heap.size + 1) #[.int .i64 0, .int .i64 0, .slice none 0 0] := row_chg n22 cp (fun hw => ownE_apart oe2 n22 (by decide) hw rfl)
                have bx : Below w.heap.size w x := (Below.and HB.out SL2.out).trans bp
                have SX : (fun u => u.cell? ⟨xo, 2, none⟩ = some (.slice a6 kj q6) ∧ u.cell? ⟨bb3, off3 + j * 6, none⟩ = some (.int .i64 (eT l3 j)) ∧ u.cell? ⟨bb3, off3 + j * 6 + 1, none⟩ = some (.int .i64 (eC l3 j)) ∧ u.cell? ⟨bb3, off3 + j * 6 + 2, none⟩ = some (.int .i64 (eS l3 j)) ∧ u.cell? ⟨bb3, off3 + j * 6 + 3, none⟩ = some (.int .i64 (eO l3 j)) ∧ u.cell? ⟨bb3, off3 + j * 6 + 4, none⟩ = some (.int .i64 (eK l3 j)) ∧ u.cell? ⟨bb3, off3 + j * 6 + 5, none⟩ = some (.int .i64 (eV l3 j))) x := ⟨no3.cells 2, (bx.cell (by exact hl3)).trans (hy0 j hlt), (bx.cell (by exact hl3)).trans (hy1 j hlt), (bx.cell (by exact hl3)).trans (hy2 j hlt), (bx.cell (by exact hl3)).trans (hy3 j hlt), (bx.cell (by exact hl3)).trans (hy4 j hlt), (bx.cell (by exact hl3)).trans (hy5 j hlt)⟩
                have AX : Hid _ := And.intro ap (And.intro no3 (And.intro n13 (And.intro n23 bx)))
                clear ap cp bp oe2 no2 n12 n22 no3 n13 n23 bx
                refine hK.out _ _ SX (fun hH2 => ?_)
                clear hK K hH
                have hH := hH2
                clear hH2
                try simp only [Act.put, List.setIfInBounds_toArray, List.set_cons_zero, List.set_cons_succ]
                refine wpAnyH_take (i := 8) (oi := ⟨_, _, _, _, _, _⟩) (v := ?_) rfl (by kernel_rfl) (by kernel_rfl) (by kernel_rfl) (fun _ _ _ h => h) (Or.inl ⟨by rfl, ?_⟩) (by assumption) ?_
                rotate_left
                · ((intro w hSw; (try dsimp only at hSw); go_simp); (try with_reducible rfl))
                try simp only [Act.put, List.setIfInBounds_toArray, List.set_cons_zero, List.set_cons_succ]
                have no3 := AX.out.2.1
                have s2 : x.cell? ⟨xo, 2, none⟩ = some (.slice a6 kj q6) := no3.cells 2
                have sf : ∀ j, x.frozen? ⟨xo, j, none⟩ = false := fun j => frozen_of_cells no3
                have no4 : MBox 26 (x.setCell ⟨xo, 2, none⟩ (.slice a9 (kj + 1) q9)) xo #[.int .i64 b, .int .i64 bt, .slice a9 (kj + 1) q9] := lg_last _ no3
                have ch := lg_last_chg x xo (.slice a9 (kj + 1) q9)
                have oe4 := OwnE.chg AX.out.1 ch (fun g hg => ownE_apart AX.out.1 no3 (by decide) hg)
                have n14 : MBox 26 (x.setCell ⟨xo, 2, none⟩ (.slice a9 (kj + 1) q9)) w.heap.size #[.int .i64 b, .int .i64 bt, .slice a l.length cap] := row_chg AX.out.2.2.1 ch (by omega)
                have n24 : MBox 26 (x.setCell ⟨xo, 2, none⟩ (.slice a9 (kj + 1) q9)) (w.heap.size + 1) #[.int .i64 0, .int .i64 0, .slice none 0 0] := row_chg AX.out.2.2.2.1 ch (by omega)
                have b4 := AX.out.2.2.2.2.trans (ch.below (fun g _ hg => by omega) AX.out.2.2.2.2.size)
                have FIN : Hid (MBox 26 (x.setCell ⟨xo, 2, none⟩ (.slice a9 (kj + 1) q9)) xo #[.int .i64 b, .int .i64 bt, .slice a9 (kj + 1) q9] ∧ MBox 26 (x.setCell ⟨xo, 2, none⟩ (.slice a9 (kj + 1) q9)) w.heap.size #[.int .i64 b, .int .i64 bt, .slice a l.length cap] ∧ MBox 26 (x.setCell ⟨xo, 2, none⟩ (.slice a9 (kj + 1) q9)) (w.heap.size + 1) #[.int .i64 0, .int .i64 0, .slice none 0 0] ∧ OwnE (x.setCell ⟨xo, 2, none⟩ (.slice a9 (kj + 1) q9)) w.heap.size 39 6 (.slice a9 (kj + 1) q9) (kj + 1) (flatE (putS l k l3 (j + 1))) ∧ Below w.heap.size w (x.setCell ⟨xo, 2, none⟩ (.slice a9 (kj + 1) q9))) := ⟨no4, n14, n24, by rw [HNEW.out]; exact oe4, b4⟩
                clear no3 no4 ch oe4 n14 n24 b4 AX KEEP
                refine wpAnyH_done (by kernel_rfl) ?_ _
                show Oper.wp _ _ _ _ _ _
                go_simp
                clear hH s2 sf
                generalize (x.setCell ⟨xo, 2, none⟩ (.slice a9 (kj + 1) q9)) = X9 at *
                go_wp2
                go_roundw
                case rel => exact ⟨j + 1, kj + 1, a9, q9, by omega, by go_num, HN2.out, FIN.out.1, FIN.out.2.1, FIN.out.2.2.1, FIN.out.2.2.2.1, FIN.out.2.2.2.2⟩
                case measure => simp [intOf]; omega
            · have hnk : n = kj := by omega
              have HNEW : Hid (putS l k l3 (j + 1) = putS l k l3 j ++ [(eT l3 j, eC l3 j, eS l3 j, eO l3 j, eK l3 j, eV l3 j)]) := putS_app (by rw [HN.out]; omega)
              have HN2 : Hid ((putS l k l3 (j + 1)).length = n + 1) := by
                have h9 := HN.out
                show _ = _
                rw [HNEW.out, List.length_append, h9]; rfl
              have RM : Hid _ := room_of (n := n) (bytes := 48) (by omega) (by decide)
              have hin' : ¬ (kj : Int) < (n : Int) := by omega
              clear hnk hkj hin e0
              go_wp2_with fail
              clear c1 cO
              have KEEP : Hid (∀ u, Below wr.heap.size wr u → (fun u => u.cell? ⟨xo, 2, none⟩ = some (.slice ax n qx) ∧ u.cell? ⟨bb3, off3 + j * 6, none⟩ = some (.int .i64 (eT l3 j)) ∧ u.cell? ⟨bb3, off3 + j * 6 + 1, none⟩ = some (.int .i64 (eC l3 j)) ∧ u.cell? ⟨bb3, off3 + j * 6 + 2, none⟩ = some (.int .i64 (eS l3 j)) ∧ u.cell? ⟨bb3, off3 + j * 6 + 3, none⟩ = some (.int .i64 (eO l3 j)) ∧ u.cell? ⟨bb3, off3 + j * 6 + 4, none⟩ = some (.int .i64 (eK l3 j)) ∧ u.cell? ⟨bb3, off3 + j * 6 + 5, none⟩ = some (.int .i64 (eV l3 j))) u) := fun u hu => by
                have k := (NO.out.step hu).cells
                have kb := Below.and HB.out hu
                exact ⟨k 2, (kb.cell (by exact hl3)).trans (hy0 j hlt), (kb.cell (by exact hl3)).trans (hy1 j hlt), (kb.cell (by exact hl3)).trans (hy2 j hlt), (kb.cell (by exact hl3)).trans (hy3 j hlt), (kb.cell (by exact hl3)).trans (hy4 j hlt), (kb.cell (by exact hl3)).trans (hy5 j hlt)⟩
              have SL : Hid (Below wr.heap.size wr wr.drew) := (Below.refl _ _).drew
              have hS0 := KEEP.out _ SL.out
              refine wp_region_last (fun u => u.cell? ⟨xo, 2, none⟩ = some (.slice ax n qx) ∧ u.cell? ⟨bb3, off3 + j * 6, none⟩ = some (.int .i64 (eT l3 j)) ∧ u.cell? ⟨bb3, off3 + j * 6 + 1, none⟩ = some (.int .i64 (eC l3 j)) ∧ u.cell? ⟨bb3, off3 + j * 6 + 2, none⟩ = some (.int .i64 (eS l3 j)) ∧ u.cell? ⟨bb3, off3 + j * 6 + 3, none⟩ = some (.int .i64 (eO l3 j)) ∧ u.cell? ⟨bb3, off3 + j * 6 + 4, none⟩ = some (.int .i64 (eK l3 j)) ∧ u.cell? ⟨bb3, off3 + j * 6 + 5, none⟩ = some (.int .i64 (eV l3 j))) [_, _, _, _, _, _, _, _, _] _ rfl (by kernel_rfl) (by kernel_rfl) ?_
              refine wpAnyH_take (i := 0) (oi := ⟨_, _, _, _, _, _⟩) (v := ?_) rfl (by kernel_rfl) (by kernel_rfl) (by kernel_rfl) (fun _ _ _ h => h) (Or.inl ⟨by rfl, ?_⟩) (by assumption) ?_
              rotate_left
              · ((intro w hSw; (try dsimp only at hSw); go_simp); (try with_reducible rfl))
              try simp only [Act.put, List.setIfInBounds_toArray, List.set_cons_zero, List.set_cons_succ]
              refine wpAnyH_take (i := 1) (oi := ⟨_, _, _, _, _, _⟩) (v := ?_) rfl (by kernel_rfl) (by kernel_rfl) (by kernel_rfl) (fun _ _ _ h => h) (Or.inl ⟨by rfl, ?_⟩) (by assumption) ?_
              rotate_left
              · ((intro w hSw; (try dsimp only at hSw); go_simp); (try with_reducible rfl))
              try simp only [Act.put, List.setIfInBounds_toArray, List.set_cons_zero, List.set_cons_succ]
              refine wpAnyH_take (i := 2) (oi := ⟨_, _, _, _, _, _⟩) (v := ?_) rfl (by kernel_rfl) (by kernel_rfl) (by kernel_rfl) (fun _ _ _ h => h) (Or.inl ⟨by rfl, ?_⟩) (by assumption) ?_
              rotate_left
              · ((intro w hSw; (try dsimp only at hSw); go_simp); (try with_reducible rfl))
              try simp only [Act.put, List.setIfInBounds_toArray, List.set_cons_zero, List.set_cons_succ]
              refine wpAnyH_take (i := 3) (oi := ⟨_, _, _, _, _, _⟩) (v := ?_) rfl (by kernel_rfl) (by kernel_rfl) (by kernel_rfl) (fun _ _ _ h => h) (Or.inl ⟨by rfl, ?_⟩) (by assumption) ?_
              rotate_left
              · ((intro w hSw; (try dsimp only at hSw); go_simp); (try with_reducible rfl))
              try simp only [Act.put, List.setIfInBounds_toArray, List.set_cons_zero, List.set_cons_succ]
              refine wpAnyH_take (i := 4) (oi := ⟨_, _, _, _, _, _⟩) (v := ?_) rfl (by kernel_rfl) (by kernel_rfl) (by kernel_rfl) (fun _ _ _ h => h) (Or.inl ⟨by rfl, ?_⟩) (by assumption) ?_
              rotate_left
              · ((intro w hSw; (try dsimp only at hSw); go_simp); (try with_reducible rfl))
              try simp only [Act.put, List.setIfInBounds_toArray, List.set_cons_zero, List.set_cons_succ]
              refine wpAnyH_take (i := 5) (oi := ⟨_, _, _, _, _, _⟩) (v := ?_) rfl (by kernel_rfl) (by kernel_rfl) (by kernel_rfl) (fun _ _ _ h => h) (Or.inl ⟨by rfl, ?_⟩) (by assumption) ?_
              rotate_left
              · ((intro w hSw; (try dsimp only at hSw); go_simp); (try with_reducible rfl))
              try simp only [Act.put, List.setIfInBounds_toArray, List.set_cons_zero, List.set_cons_succ]
              refine wpAnyH_ready (rs := [6]) (by kernel_rfl) (by simp) ?_
              refine AllReadyH.cons (o := ⟨_, _, _, _, _, _⟩) rfl (fun K hK => ?_) AllReadyH.nil
              go_simp
              have SL2 : Hid (Below wr.heap.size wr ((wr.alloc (.cells #[.int .i64 (eT l3 j), .int .i64 (eC l3 j), .int .i64 (eS l3 j), .int .i64 (eO l3 j), .int .i64 (eK l3 j), .int .i64 (eV l3 j)] 39)).drew)) := (bel_nw _ _).drew
              have HX : Hid (((wr.alloc (.cells #[.int .i64 (eT l3 j), .int .i64 (eC l3 j), .int .i64 (eS l3 j), .int .i64 (eO l3 j), .int .i64 (eK l3 j), .int .i64 (eV l3 j)] 39)).drew).heap[wr.heap.size]? = some (.cells (flatE [(eT l3 j, eC l3 j, eS l3 j, eO l3 j, eK l3 j, eV l3 j)]).toArray 39 (0, 0))) := heap_alloc_new wr _
              refine hK.out _ _ (KEEP.out _ SL2.out) (fun hH => ?_)
              clear hK K hS0
              try simp only [Act.put, List.setIfInBounds_toArray, List.set_cons_zero, List.set_cons_succ]
              generalize ((wr.alloc (.cells #[.int .i64 (eT l3 j), .int .i64 (eC l3 j), .int .i64 (eS l3 j), .int .i64 (eO l3 j), .int .i64 (eK l3 j), .int .i64 (eV l3 j)] 39)).drew) = U2 at *
              refine wpAnyH_ready (rs := [7]) (by kernel_rfl) (by simp) ?_
              refine AllReadyH.cons (o := ⟨_, _, _, _, _, _⟩) rfl (fun K hK => ?_) AllReadyH.nil
              refine step_appE U2 rfl _ _ 24 rfl w.heap.size 39 i0 _ 6 48 Try.underlying24 hi0 hz0 hz1 hz2 rfl (by decide) (.slice ax n qx) n (flatE (putS l k l3 j)) rfl (OwnE.below OE.out SL2.out) (.slice (some ⟨wr.heap.size, 0, none⟩) 1 1) 1 (flatE [(eT l3 j, eC l3 j, eS l3 j, eO l3 j, eK l3 j, eV l3 j)]) rfl (Row.of_box HX.out (by decide)) rfl (flatE_one _) RM.out.1 RM.out.2 (Nat.le_trans HB.out.size SL2.out.size) ?_
              intro v' x AP
              obtain ⟨ap, cp, bp, _⟩ := AP
              rw [← flatE_append] at ap
              obtain ⟨a9, q9, hv9⟩ := OwnE.slice ap
              subst hv9
              have oe2 := OwnE.below OE.out SL2.out
              have no2 := NO.out.step SL2.out
              have n12 := N1.out.step SL2.out
              have n22 := N2.out.step SL2.out
              have no3 : MBox 26 x xo #[.int .i64 b, .int .i64 bt, .slice ax n qx] := row_chg no2 cp (fun hw => ownE_apart oe2 no2 (by decide) hw rfl)
              have n13 : MBox 26 x w.heap.size #[.int .i64 b, .int .i64 bt, .slice a l.length cap] := row_chg n12 cp (fun hw => ownE_apart oe2 n12 (by decide) hw rfl)
              have n23 : MBox 26 x (w.heap.size + 1) #[.int .i64 0, .int .i64 0, .slice none 0 0] := row_chg n22 cp (fun hw => ownE_apart oe2 n22 (by decide) hw rfl)
              have bx : Below w.heap.size w x := (Below.and HB.out SL2.out).trans bp
              have SX : (fun u => u.cell? ⟨xo, 2, none⟩ = some (.slice ax n qx) ∧ u.cell? ⟨bb3, off3 + j * 6, none⟩ = some (.int .i64 (eT l3 j)) ∧ u.cell? ⟨bb3, off3 + j * 6 + 1, none⟩ = some (.int .i64 (eC l3 j)) ∧ u.cell? ⟨bb3, off3 + j * 6 + 2, none⟩ = some (.int .i64 (eS l3 j)) ∧ u.cell? ⟨bb3, off3 + j * 6 + 3, none⟩ = some (.int .i64 (eO l3 j)) ∧ u.cell? ⟨bb3, off3 + j * 6 + 4, none⟩ = some (.int .i64 (eK l3 j)) ∧ u.cell? ⟨bb3, off3 + j * 6 + 5, none⟩ = some (.int .i64 (eV l3 j))) x := ⟨no3.cells 2, (bx.cell (by exact hl3)).trans (hy0 j hlt), (bx.cell (by exact hl3)).trans (hy1 j hlt), (bx.cell (by exact hl3)).trans (hy2 j hlt), (bx.cell (by exact hl3)).trans (hy3 j hlt), (bx.cell (by exact hl3)).trans (hy4 j hlt), (bx.cell (by exact hl3)).trans (hy5 j hlt)⟩
              have AX : Hid _ := And.intro ap (And.intro no3 (And.intro n13 (And.intro n23 bx)))
              clear ap cp bp oe2 no2 n12 n22 no3 n13 n23 bx
              refine hK.out _ _ SX (fun hH2 => ?_)
              clear hK K hH
              have hH := hH2
              clear hH2
              try simp only [Act.put, List.setIfInBounds_toArray, List.set_cons_zero, List.set_cons_succ]
              refine wpAnyH_take (i := 8) (oi := ⟨_, _, _, _, _, _⟩) (v := ?_) rfl (by kernel_rfl) (by kernel_rfl) (by kernel_rfl) (fun _ _ _ h => h) (Or.inl ⟨by rfl, ?_⟩) (by assumption) ?_
              rotate_left
              · ((intro w hSw; (try dsimp only at hSw); go_simp); (try with_reducible rfl))
              try simp only [Act.put, List.setIfInBounds_toArray, List.set_cons_zero, List.set_cons_succ]
              have no3 := AX.out.2.1
              have s2 : x.cell? ⟨xo, 2, none⟩ = some (.slice ax n qx) := no3.cells 2
              have sf : ∀ j, x.frozen? ⟨xo, j, none⟩ = false := fun j => frozen_of_cells no3
              have no4 : MBox 26 (x.setCell ⟨xo, 2, none⟩ (.slice a9 (n + 1) q9)) xo #[.int .i64 b, .int .i64 bt, .slice a9 (n + 1) q9] := lg_last _ no3
              have ch := lg_last_chg x xo (.slice a9 (n + 1) q9)
              have oe4 := OwnE.chg AX.out.1 ch (fun g hg => ownE_apart AX.out.1 no3 (by decide) hg)
              have n14 : MBox 26 (x.setCell ⟨xo, 2, none⟩ (.slice a9 (n + 1) q9)) w.heap.size #[.int .i64 b, .int .i64 bt, .slice a l.length cap] := row_chg AX.out.2.2.1 ch (by omega)
              have n24 : MBox 26 (x.setCell ⟨xo, 2, none⟩ (.slice a9 (n + 1) q9)) (w.heap.size + 1) #[.int .i64 0, .int .i64 0, .slice none 0 0] := row_chg AX.out.2.2.2.1 ch (by omega)
              have b4 := AX.out.2.2.2.2.trans (ch.below (fun g _ hg => by omega) AX.out.2.2.2.2.size)
              have FIN : Hid (MBox 26 (x.setCell ⟨xo, 2, none⟩ (.slice a9 (n + 1) q9)) xo #[.int .i64 b, .int .i64 bt, .slice a9 (n + 1) q9] ∧ MBox 26 (x.setCell ⟨xo, 2, none⟩ (.slice a9 (n + 1) q9)) w.heap.size #[.int .i64 b, .int .i64 bt, .slice a l.length cap] ∧ MBox 26 (x.setCell ⟨xo, 2, none⟩ (.slice a9 (n + 1) q9)) (w.heap.size + 1) #[.int .i64 0, .int .i64 0, .slice none 0 0] ∧ OwnE (x.setCell ⟨xo, 2, none⟩ (.slice a9 (n + 1) q9)) w.heap.size 39 6 (.slice a9 (n + 1) q9) (n + 1) (flatE (putS l k l3 (j + 1))) ∧ Below w.heap.size w (x.setCell ⟨xo, 2, none⟩ (.slice a9 (n + 1) q9))) := ⟨no4, n14, n24, by rw [HNEW.out]; exact oe4, b4⟩
              clear no3 no4 ch oe4 n14 n24 b4 AX KEEP
              refine wpAnyH_done (by kernel_rfl) ?_ _
              show Oper.wp _ _ _ _ _ _
              go_simp
              clear hH s2 sf
              generalize (x.setCell ⟨xo, 2, none⟩ (.slice a9 (n + 1) q9)) = X9 at *
              go_wp2
              go_roundw
              case rel => exact ⟨j + 1, n + 1, a9, q9, by omega, by go_num, HN2.out, FIN.out.1, FIN.out.2.1, FIN.out.2.2.1, FIN.out.2.2.2.1, FIN.out.2.2.2.2⟩
              case measure => simp [intOf]; omega
          · have hjl2 : j = l3.length := by omega
            subst hjl2
            have hxl : n ≤ 2097152 := by omega
            rw [← HAT.out] at OE HN
            have CO2 : Hid (∀ u V, Row u V n (flatE (putX b l pr l3)) → Calls Try.prog 19 #[lgV b bt V] u fun e w' => e = .returned (.bool (logOkB b bt (putX b l pr l3))) ∧ Below u.heap.size u w') := fun u V hV => specLogOk_any b bt V _ u (by rw [HN.out]; exact hV) (by rw [HN.out]; omega)
            have EY : Hid (logOkB b bt (putX b l pr l3) = true → putL b bt l pr pt l3 = putX b l pr l3 ∧ putB b bt l = b ∧ putT b bt l = bt ∧ putK b bt l pr pt l3 = true) := fun hx => put_yes HOK.out HC.out hx
            have EN : Hid (logOkB b bt (putX b l pr l3) = false → putL b bt l pr pt l3 = l ∧ putB b bt l = b ∧ putT b bt l = bt ∧ putK b bt l pr pt l3 = false) := fun hx => put_no HOK.out (.inr hx)
            generalize putX b l pr l3 = X3 at *
            clear HAT hy0 hy1 hy2 hy3 hy4 hy5 ha3 hnn hnm
            have B2 : Hid (Below w.heap.size w wr) := HB.out
            have hz2w : w.heap.size + 2 ≤ wr.heap.size := by have := (Array.getElem?_eq_some_iff.1 NO.out).1; omega
            have ZZ : Hid (w.heap.size + 2 ≤ wr.heap.size) := hz2w
            clear hz2w HB
            have cO := NO.out.cells
            go_wp2_with fail
            refine (CO2.out _ _ (OwnE.rowE OE.out)).mono ?_
            rintro e w6 ⟨rfl, b6⟩
            replace NO : Hid (MBox 26 w6 xo #[.int .i64 b, .int .i64 bt, .slice ax n qx]) := NO.out.step b6
            replace OE : Hid (OwnE w6 w.heap.size 39 6 (.slice ax n qx) n (flatE X3)) := OwnE.below OE.out b6
            replace N1 : Hid (MBox 26 w6 w.heap.size #[.int .i64 b, .int .i64 bt, .slice a l.length cap]) := N1.out.step b6
            replace N2 : Hid (MBox 26 w6 (w.heap.size + 1) #[.int .i64 0, .int .i64 0, .slice none 0 0]) := N2.out.step b6
            replace B2 : Hid (Below w.heap.size w w6) := Below.and B2.out b6
            replace ZZ : Hid (w.heap.size + 2 ≤ w6.heap.size) := Nat.le_trans ZZ.out b6.size
            clear b6 cO
            cases hx : logOkB b bt X3 with
            | false =>
              have E : Hid _ := EN.out hx
              have c1 := N1.out.cells
              clear hx
              clear c1
              have c1 := N1.out.cells
              go_wp2_with fail
              refine (CC.out _ B2.out).mono ?_
              rintro e wk ⟨vk, rfl, ok, bk⟩
              obtain ⟨ak, qk, hvk⟩ := OwnE.slice ok
              subst hvk
              have zk := ZZ.out
              replace N1 : Hid (MBox 26 wk w.heap.size #[.int .i64 b, .int .i64 bt, .slice a l.length cap]) := N1.out.step bk
              replace N2 : Hid (MBox 26 wk (w.heap.size + 1) #[.int .i64 0, .int .i64 0, .slice none 0 0]) := N2.out.step bk
              replace B2 : Hid (Below w.heap.size w wk) := Below.and B2.out bk
              replace ZZ : Hid (w.heap.size + 2 ≤ wk.heap.size) := Nat.le_trans ZZ.out bk.size
              clear bk c1
              have M2 := N2.out
              have m0 : wk.cell? ⟨w.heap.size + 1, 0, none⟩ = some (.int .i64 0) := cell_of_cells M2
              have m1 : wk.cell? ⟨w.heap.size + 1, 1, none⟩ = some (.int .i64 0) := cell_of_cells M2
              have m2 : wk.cell? ⟨w.heap.size + 1, 2, none⟩ = some (.slice none 0 0) := cell_of_cells M2
              have f0 : ∀ j, wk.frozen? ⟨w.heap.size + 1, j, none⟩ = false := fun j => frozen_of_cells M2
              have X := lg_all (.int .i64 b) (.int .i64 bt) (.slice ak l.length qk) M2
              have ch := lg_all_chg wk (w.heap.size + 1) (.int .i64 b) (.int .i64 bt) (.slice ak l.length qk)
              have o3 := OwnE.mono (base' := w.heap.size) (OwnE.chg ok ch (fun g hg => ownE_apart ok M2 (by decide) hg)) (by omega)
              have BF := B2.out.trans (ch.below (fun g _ hg => by omega) B2.out.size)
              have FIN : Hid (_ ∧ _ ∧ _) := And.intro X (And.intro o3 BF)
              clear M2 X ch BF
              go_wp2_with fail
              simp [bodyPost, results, Try.results16, go_sem, cell_of_cells FIN.out.1]
              exact ⟨_, ⟨⟨E.out.2.1.symm, E.out.2.2.1.symm, rfl⟩, by first | exact E.out.2.2.2 | exact E.out.2.2.2.symm⟩, by rw [E.out.1]; exact FIN.out.2.1, FIN.out.2.2⟩
            | true =>
              have E : Hid _ := EY.out hx
              have c5 := NO.out.cells
              clear hx
              have M2 := N2.out
              have m0 : w6.cell? ⟨w.heap.size + 1, 0, none⟩ = some (.int .i64 0) := cell_of_cells M2
              have m1 : w6.cell? ⟨w.heap.size + 1, 1, none⟩ = some (.int .i64 0) := cell_of_cells M2
              have m2 : w6.cell? ⟨w.heap.size + 1, 2, none⟩ = some (.slice none 0 0) := cell_of_cells M2
              have f0 : ∀ j, w6.frozen? ⟨w.heap.size + 1, j, none⟩ = false := fun j => frozen_of_cells M2
              have X := lg_all (.int .i64 b) (.int .i64 bt) (.slice ax n qx) M2
              have ch := lg_all_chg w6 (w.heap.size + 1) (.int .i64 b) (.int .i64 bt) (.slice ax n qx)
              have o3 := OwnE.chg OE.out ch (fun g hg => ownE_apart OE.out M2 (by decide) hg)
              have BF := B2.out.trans (ch.below (fun g _ hg => by omega) B2.out.size)
              have FIN : Hid (_ ∧ _ ∧ _) := And.intro X (And.intro o3 BF)
              clear M2 X ch BF
              go_wp2_with fail
              simp [bodyPost, results, Try.results16, go_sem, cell_of_cells FIN.out.1]
              exact ⟨_, ⟨⟨E.out.2.1.symm, E.out.2.2.1.symm, rfl⟩, by first | exact E.out.2.2.2 | exact E.out.2.2.2.symm⟩, by rw [E.out.1, HN.out]; exact FIN.out.2.1, FIN.out.2.2⟩
      · have E : Hid _ := put_no (l3 := l3) HOK.out (.inl (show putC b bt l pr pt = false by unfold putC; simp [hte]; intro _; exact hq))
        have hq' : (te != pt) = true := by simpa using hq
        clear hy0 hy1 hy2 hy3 hy4 hy5 ha3
        have M2 := N2.out
        have m0 : w3.cell? ⟨w.heap.size + 1, 0, none⟩ = some (.int .i64 0) := cell_of_cells M2
        have m1 : w3.cell? ⟨w.heap.size + 1, 1, none⟩ = some (.int .i64 0) := cell_of_cells M2
        have m2 : w3.cell? ⟨w.heap.size + 1, 2, none⟩ = some (.slice none 0 0) := cell_of_cells M2
        have f0 : ∀ j, w3.frozen? ⟨w.heap.size + 1, j, none⟩ = false := fun j => frozen_of_cells M2
        have X := lg_all (.int .i64 b) (.int .i64 bt) (.slice a5 l.length q5) M2
        have ch := lg_all_chg w3 (w.heap.size + 1) (.int .i64 b) (.int .i64 bt) (.slice a5 l.length q5)
        have o3 := OwnE.chg OE.out ch (fun g hg => ownE_apart OE.out M2 (by decide) hg)
        have BF := B2.out.trans (ch.below (fun g _ hg => by omega) B2.out.size)
        have FIN : Hid (_ ∧ _ ∧ _) := And.intro X (And.intro o3 BF)
        clear M2 X ch BF
        go_wp2_with fail
        simp [bodyPost, results, Try.results16, go_sem, cell_of_cells FIN.out.1]
        exact ⟨_, ⟨⟨E.out.2.1.symm, E.out.2.2.1.symm, rfl⟩, by first | exact E.out.2.2.2 | exact E.out.2.2.2.symm⟩, by rw [E.out.1]; exact FIN.out.2.1, FIN.out.2.2⟩

end Go.Proofs.Yteegcblndbljlaa
