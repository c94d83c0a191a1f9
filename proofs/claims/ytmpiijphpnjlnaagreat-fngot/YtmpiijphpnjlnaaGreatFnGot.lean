/-
  The law FnGot at any row of bytes.
-/
import Derived.Test.YtmpiijphpnjlnaaGreatGot
namespace Go.Proofs.YtmpiijphpnjlnaaGreat
open Go.RowKit

set_option maxRecDepth 100000 in
set_option maxHeartbeats 8000000 in
theorem fnGot_any (v : Value) (bs : List Int) (W0 : World) (hc : Code8 W0 v bs) :
    Calls Tryz.prog 3 #[v] W0 fun e w' => e = .returned (.bool true) ∧ Below W0.heap.size W0 w' := by
  obtain ⟨a0, cap0, hv, hle⟩ := hc.1.len
  by_cases hbig : bs.length ≤ 1048576
  · have hd : decide (bs.length > 1048576) = false := decide_eq_false (by omega)
    have HD : Hid _ := drawTreeGet_any v bs W0 hc hbig
    clear hc
    subst hv
    go_enter Tryz.func3, Tryz.ntmps3
    go_wp2_with fail
    refine (big_any _ _ _ hle _).mono ?_
    rintro e w0 ⟨rfl, hw0⟩
    subst hw0
    rw [hd]
    generalize bs.length = bn at *
    go_wp2_with fail
    refine Calls.mono HD.out ?_
    rintro e w1 ⟨y, T, k, rfl, hsz, TA, hb1⟩
    have SZ : Hid (sizeT 8 T ≤ 1099511627776) := hsz
    obtain ⟨ya1, ya2, ya3, ya4, yq1, yq2, yq3, yq4, hyy⟩ := TA.shape
    subst hyy
    have TA1 : Hid (TreeAt 8 w1 (⟨T.leaf, .slice ya1 T.pairs.length yq1, .slice ya2 T.cuts.length yq2, .slice ya3 T.kids.length yq3, .slice ya4 T.buf.length yq4⟩ : TV) T) := TA
    have BW : Hid (Below w0.heap.size w0 w1) := hb1
    clear TA hb1 hsz HD
    go_upto_region 4 with fail
    have X1 : Hid (OneAt (w1.alloc (.cells #[.bool T.leaf, .slice ya1 T.pairs.length yq1, .slice ya2 T.cuts.length yq2, .slice ya3 T.kids.length yq3, .slice ya4 T.buf.length yq4] 29)) w1.heap.size #[.bool T.leaf, .slice ya1 T.pairs.length yq1, .slice ya2 T.cuts.length yq2, .slice ya3 T.kids.length yq3, .slice ya4 T.buf.length yq4]) := OneAt.start _ _
    have TA2 : Hid (TreeAt 8 (w1.alloc (.cells #[.bool T.leaf, .slice ya1 T.pairs.length yq1, .slice ya2 T.cuts.length yq2, .slice ya3 T.kids.length yq3, .slice ya4 T.buf.length yq4] 29)) (⟨T.leaf, .slice ya1 T.pairs.length yq1, .slice ya2 T.cuts.length yq2, .slice ya3 T.kids.length yq3, .slice ya4 T.buf.length yq4⟩ : TV) T) := TA1.out.below (al1 _ _)
    have BV : Hid (Below w0.heap.size w0 (w1.alloc (.cells #[.bool T.leaf, .slice ya1 T.pairs.length yq1, .slice ya2 T.cuts.length yq2, .slice ya3 T.kids.length yq3, .slice ya4 T.buf.length yq4] 29))) := Below.and BW.out (al1 _ _)
    clear TA1 BW
    generalize (w1.alloc (.cells #[.bool T.leaf, .slice ya1 T.pairs.length yq1, .slice ya2 T.cuts.length yq2, .slice ya3 T.kids.length yq3, .slice ya4 T.buf.length yq4] 29)) = V at *
    generalize w1.heap.size = NT at *
    have KP : Hid (∀ u, Below V.heap.size V u → (u.cell? ⟨NT, 0, none⟩ = some (.bool T.leaf) ∧ u.cell? ⟨NT, 1, none⟩ = some (.slice ya1 T.pairs.length yq1) ∧ u.cell? ⟨NT, 2, none⟩ = some (.slice ya2 T.cuts.length yq2) ∧ u.cell? ⟨NT, 3, none⟩ = some (.slice ya3 T.kids.length yq3) ∧ u.cell? ⟨NT, 4, none⟩ = some (.slice ya4 T.buf.length yq4)) ∧ TreeAt 8 u (⟨T.leaf, .slice ya1 T.pairs.length yq1, .slice ya2 T.cuts.length yq2, .slice ya3 T.kids.length yq3, .slice ya4 T.buf.length yq4⟩ : TV) T) := fun u hu => ⟨box_cells5 (X1.out.step hu), TA2.out.below hu⟩
    have B0 : Hid (Below V.heap.size V V) := Below.refl _ _
    have KEYS : Hid (∀ i, i < (pendT T k).length → mK (pendT T k) i = k) := pend_key T k
    have NOL : Hid (okT T = false → (pendT T k).length = 0) := pend_no k
    have PLEN : Hid ((pendT T k).length ≤ 42) := pendT_length T k
    clear X1 TA2
    generalize hG1 : (getT T k).1 = G1 at *
    generalize hG2 : (getT T k).2 = G2 at *
    generalize hPL : pendT T k = PL at *
    obtain ⟨c0, c1, c2, c3, c4⟩ := (KP.out _ B0.out).1
    have HX : Hid _ := implTreeGet_any 8 ⟨T.leaf, .slice ya1 T.pairs.length yq1, .slice ya2 T.cuts.length yq2, .slice ya3 T.kids.length yq3, .slice ya4 T.buf.length yq4⟩ T k V (KP.out _ B0.out).2
    rw [hG1, hG2] at HX
    go_wp2_with fail
    refine Calls.mono HX.out ?_
    rintro e v0 ⟨rfl, hb⟩
    have B1 : Hid (Below V.heap.size V v0) := Below.and B0.out hb
    clear c0 c1 c2 c3 c4 hb HX
    obtain ⟨c0, c1, c2, c3, c4⟩ := (KP.out _ B1.out).1
    have HX : Hid _ := specTreeGet_any 8 ⟨T.leaf, .slice ya1 T.pairs.length yq1, .slice ya2 T.cuts.length yq2, .slice ya3 T.kids.length yq3, .slice ya4 T.buf.length yq4⟩ T k v0 (KP.out _ B1.out).2 SZ.out
    rw [hG1, hG2] at HX
    go_wp2_with fail
    refine Calls.mono HX.out ?_
    rintro e v1 ⟨rfl, hb⟩
    have B2 : Hid (Below V.heap.size V v1) := Below.and B1.out hb
    clear c0 c1 c2 c3 c4 hb HX
    obtain ⟨c0, c1, c2, c3, c4⟩ := (KP.out _ B2.out).1
    have HX : Hid _ := implPending_any 8 ⟨T.leaf, .slice ya1 T.pairs.length yq1, .slice ya2 T.cuts.length yq2, .slice ya3 T.kids.length yq3, .slice ya4 T.buf.length yq4⟩ T k v1 (KP.out _ B2.out).2
    go_wp2_with fail
    refine Calls.mono HX.out ?_
    rintro e v2 ⟨vp, rfl, op, hb⟩
    have B3 : Hid (Below V.heap.size V v2) := Below.and B2.out hb
    have RP : Hid (∀ u, Below v2.heap.size v2 u → Row u vp PL.length (flatM PL)) := fun u hu => by
      have := Row.of_owns op
      rw [hPL] at this
      exact this.below hu
    obtain ⟨pa, pq, hvp, _⟩ := (RP.out v2 (Below.refl _ _)).len
    subst hvp
    clear op
    clear c0 c1 c2 c3 c4 hb HX
    obtain ⟨c0, c1, c2, c3, c4⟩ := (KP.out _ B3.out).1
    have HX : Hid _ := specPending_any 8 ⟨T.leaf, .slice ya1 T.pairs.length yq1, .slice ya2 T.cuts.length yq2, .slice ya3 T.kids.length yq3, .slice ya4 T.buf.length yq4⟩ T k v2 (KP.out _ B3.out).2 SZ.out
    go_wp2_with fail
    refine Calls.mono HX.out ?_
    rintro e v3 ⟨vq, rfl, oq, hb⟩
    have B4 : Hid (Below V.heap.size V v3) := Below.and B3.out hb
    have RQ : Row v3 vq PL.length (flatM PL) := by
      have := Row.of_owns oq
      rw [hPL] at this
      exact this
    have L3 : Hid (Below v2.heap.size v2 v3) := hb
    have HS : Hid _ := sameMsgs_any (.slice pa PL.length pq) vq PL PL v3 (RP.out _ hb) RQ
    obtain ⟨qa, qq, hvq, _⟩ := RQ.len
    subst hvq
    rw [decide_eq_true (rfl : PL = PL)] at HS
    clear oq RQ
    clear c0 c1 c2 c3 c4 hb HX
    go_wp2_with fail
    refine Calls.mono HS.out ?_
    rintro e v4 ⟨rfl, hb⟩
    have B5 : Hid (Below V.heap.size V v4) := Below.and B4.out hb
    have L4 : Hid (Below v2.heap.size v2 v4) := Below.and L3.out hb
    clear hb HS L3
    have RP4 := RP.out v4 L4.out
    obtain ⟨av, pb, poff, pcap, hpv, hpc, hpm, hpa, po, pk, pv⟩ := RP4.msgs
    have hav : pa = av ∧ pq = pcap := by simp at hpv; exact ⟨hpv.1, hpv.2⟩
    obtain ⟨rfl, rfl⟩ := hav
    have PK : Hid (∀ j, j < PL.length → pa = some ⟨pb, poff, none⟩ ∧ v4.cell? ⟨pb, poff + j * 3 + 1, none⟩ = some (.int .i64 k)) := fun j hj => ⟨hpa (by omega), by rw [pk j hj, KEYS.out j hj]⟩
    unfold maxLen at hpm
    have hlen : PL.length ≤ 42 := PLEN.out
    clear hpv po pk pv hpa RP4
    go_wp2
    go_loopw [10] (fun i wr => ∃ j : Nat, j ≤ PL.length ∧ i = .int .i64 j ∧ wr = v4) (fun i _ => PL.length - (intOf i).toNat)
    case atStart => exact ⟨0, Nat.zero_le _, rfl, by simp⟩
    case round =>
      obtain ⟨j, hj, rfl, rfl⟩ := hrel
      by_cases hlt : j < PL.length
      · obtain ⟨hpa, ck⟩ := PK.out j hlt
        subst hpa
        have hi1 : (0 : Int) ≤ (j : Int) := by omega
        have hi2 : (j : Int) < (PL.length : Int) := by omega
        go_wp2
        go_roundw
        case rel => exact ⟨j + 1, by omega, by go_num, by simp⟩
        case measure => simp [intOf]; omega
      · have hi2 : ¬ (j : Int) < (PL.length : Int) := by omega
        obtain ⟨c0, c1, c2, c3, c4⟩ := (KP.out _ B5.out).1
        have HX : Hid _ := implTreeMap_any 8 ⟨T.leaf, .slice ya1 T.pairs.length yq1, .slice ya2 T.cuts.length yq2, .slice ya3 T.kids.length yq3, .slice ya4 T.buf.length yq4⟩ T wr (KP.out _ B5.out).2
        go_wp2_with fail
        refine Calls.mono HX.out ?_
        rintro e v5 ⟨vm, rfl, om, hb⟩
        have B6 : Hid (Below V.heap.size V v5) := Below.and B5.out hb
        have HM : Hid _ := implMapGet_any vm (mapT T) k v5 (Row.of_owns om)
        rw [got_is, hG1, hG2] at HM
        obtain ⟨ma, mq, hvm, _⟩ := (Row.of_owns om).len
        subst hvm
        clear c0 c1 c2 c3 c4 hb HX om
        go_wp2_with fail
        refine Calls.mono HM.out ?_
        rintro e v6 ⟨rfl, hb⟩
        have B7 : Hid (Below V.heap.size V v6) := Below.and B6.out hb
        clear hb HM
        obtain ⟨c0, c1, c2, c3, c4⟩ := (KP.out _ B7.out).1
        have HX : Hid _ := specTreeOk_any 8 ⟨T.leaf, .slice ya1 T.pairs.length yq1, .slice ya2 T.cuts.length yq2, .slice ya3 T.kids.length yq3, .slice ya4 T.buf.length yq4⟩ T v6 (KP.out _ B7.out).2 SZ.out
        go_wp2_with fail
        refine Calls.mono HX.out ?_
        rintro e v7 ⟨rfl, hb⟩
        have BF : Hid (Below w0.heap.size w0 v7) := Below.and BV.out (Below.and B7.out hb)
        cases hok : okT T with
        | true =>
          go_wp2
          go_ret
          exact ⟨ret_bool (by simp), BF.out⟩
        | false =>
          have h0 := NOL.out hok
          go_wp2
          go_ret
          exact ⟨ret_bool (by simp), BF.out⟩
  · have hd : decide (bs.length > 1048576) = true := decide_eq_true (by omega)
    subst hv
    go_enter Tryz.func3, Tryz.ntmps3
    go_wp2_with fail
    refine (big_any _ _ _ hle _).mono ?_
    rintro e w0 ⟨rfl, hw0⟩
    subst hw0
    rw [hd]
    go_wp2
    go_ret
    exact ⟨rfl, Below.refl _ _⟩

end Go.Proofs.YtmpiijphpnjlnaaGreat
