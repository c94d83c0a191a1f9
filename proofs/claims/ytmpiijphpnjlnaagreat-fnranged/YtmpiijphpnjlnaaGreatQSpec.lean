/-
  The contract of the model's l3Pending.
-/
import Derived.Test.YtmpiijphpnjlnaaGreatPart4
namespace Go.Proofs.YtmpiijphpnjlnaaGreat
open Go.RowKit

/-- what is shown of l3Pending at trees of a depth of at most m -/
def PendIs (m : Nat) : Prop := ∀ (n : Nat) (x : TV) (T : Tr) (lo hi k : Int) (w : World), TreeAt n w x T → depthF m T lo hi ≠ 0 →
  Calls Tryz.prog 29 #[x.val, .int .i64 k] w fun e w' => ∃ v', e = .returned v' ∧ w'.ownsRow w.heap.size 37 3 v' (pendF m T k).length (flatM (pendF m T k)) ∧ Below w.heap.size w w'

theorem box_cells5 {u : World} {B : Nat} {x0 x1 x2 x3 x4 : Value} (h : OneAt u B #[x0, x1, x2, x3, x4]) :
    u.cell? ⟨B, 0, none⟩ = some x0 ∧ u.cell? ⟨B, 1, none⟩ = some x1 ∧ u.cell? ⟨B, 2, none⟩ = some x2 ∧ u.cell? ⟨B, 3, none⟩ = some x3 ∧ u.cell? ⟨B, 4, none⟩ = some x4 := by
  have := h.cells
  exact ⟨by rw [this]; rfl, by rw [this]; rfl, by rw [this]; rfl, by rw [this]; rfl, by rw [this]; rfl⟩
theorem OneAt.stepB {u w' : World} {B N : Nat} {A : Array Value} (h : OneAt u B A) (hb : Below N u w') (hN : B < N) : OneAt w' B A := (hb.block B hN).trans h
theorem cell_lowB {w w' : World} {N b o : Nat} {v : Value} (hb : Below N w w') (hN : b < N) (h : w.cell? ⟨b, o, none⟩ = some v) : w'.cell? ⟨b, o, none⟩ = some v := (hb.cell (p := ⟨b, o, none⟩) hN).trans h

set_option maxRecDepth 100000 in
set_option maxHeartbeats 4000000 in
theorem pend_of {m : Nat} (hm6 : m ≤ 6) (H : PendIs m) : PendIs (m + 1) := by
  intro n x T lo hi k w ht hd
  cases n with
  | zero => exact ht.elim
  | succ n =>
  have TT : Hid (TreeAt (n + 1) w x T) := ht
  obtain ⟨_, _, _, hbuf, hkids⟩ := ht.parts
  obtain ⟨a1, a2, a3, a4, q1, q2, q3, q4, hx⟩ := ht.shape
  subst hx
  simp only at hbuf hkids
  clear ht
  obtain ⟨i0, hi0, hz0, hz1, hz2⟩ := info_parts Tryz.info37
  have E0 : Hid (((w.alloc (.cells #[.bool T.leaf, .slice a1 T.pairs.length q1, .slice a2 T.cuts.length q2, .slice a3 T.kids.length q3, .slice a4 T.buf.length q4] 29)).alloc (.cells #[] 37)).ownsRow (w.heap.size + 1) 37 3 (.slice (some ⟨w.heap.size + 1, 0, none⟩) 0 0) 0 []) := by
    have := empty_own (w.alloc (.cells #[.bool T.leaf, .slice a1 T.pairs.length q1, .slice a2 T.cuts.length q2, .slice a3 T.kids.length q3, .slice a4 T.buf.length q4] 29)) (w.heap.size + 1) 37 3 (by simp)
    rw [World.size_alloc] at this
    exact this
  have B0 : Hid (Below w.heap.size w ((w.alloc (.cells #[.bool T.leaf, .slice a1 T.pairs.length q1, .slice a2 T.cuts.length q2, .slice a3 T.kids.length q3, .slice a4 T.buf.length q4] 29)).alloc (.cells #[] 37))) := ((Below.refl _ _).alloc (Nat.le_refl _) _).alloc (by simp) _
  have S0 : Hid (OneAt ((w.alloc (.cells #[.bool T.leaf, .slice a1 T.pairs.length q1, .slice a2 T.cuts.length q2, .slice a3 T.kids.length q3, .slice a4 T.buf.length q4] 29)).alloc (.cells #[] 37)) w.heap.size #[.bool T.leaf, .slice a1 T.pairs.length q1, .slice a2 T.cuts.length q2, .slice a3 T.kids.length q3, .slice a4 T.buf.length q4]) :=
    (OneAt.start w _).step ((Below.refl _ _).alloc (Nat.le_refl _) _)
  cases hl : T.leaf
  · rw [hl] at TT E0 B0 S0
    have hf := depthF_fork_ok hd hl
    have hqk := kidK_in hf.1 k
    have hdk : Hid (depthF m (kidT T (prefK T.cuts k)) (fromT T lo (prefK T.cuts k)) (toT T hi (prefK T.cuts k)) ≠ 0) := hf.2 _ hqk
    have hml := pendF_length k hdk.out
    have PE : Hid (pendF (m + 1) T k = pendF m (kidT T (prefK T.cuts k)) k ++ ofK T.buf k) := by
      show _ = _
      rw [pendF, if_neg (by rw [hl]; simp)]; rfl
    have hb6 := (forkOk_parts hf.1).2.2.2.1
    have HK : Hid (∀ w1, Below w.heap.size w w1 → Calls Tryz.prog 26 #[.agg #[.bool false, .slice a1 T.pairs.length q1, .slice a2 T.cuts.length q2, .slice a3 T.kids.length q3, .slice a4 T.buf.length q4], .int .i64 k] w1 fun e w' => e = .returned (.int .i64 (prefK T.cuts k : Nat)) ∧ Below w1.heap.size w1 w') :=
      fun w1 hb => l2Kid_any (n + 1) ⟨false, .slice a1 T.pairs.length q1, .slice a2 T.cuts.length q2, .slice a3 T.kids.length q3, .slice a4 T.buf.length q4⟩ T k w1 (TT.out.below hb)
    obtain ⟨xs, hxl, hrow, hk⟩ := hkids
    obtain ⟨a3', b3, off3, cap3, hv3, hcap3, hmax3, ha3, c0, c1, c2, c3, c4⟩ := hrow.trees
    simp only [Value.slice.injEq] at hv3
    obtain ⟨rfl, _, rfl⟩ := hv3
    rw [← hxl] at hqk
    have hal := ha3 (by omega)
    subst hal
    have TK : TreeAt n w (tvAt xs (prefK T.cuts k)) (kidT T (prefK T.cuts k)) := hk _ hqk
    obtain ⟨r1, r2, r3, r4, s1, s2, s3, s4, hy⟩ := TK.shape
    have d0 := c0 _ hqk
    have d1 := c1 _ hqk
    have d2 := c2 _ hqk
    have d3 := c3 _ hqk
    have d4 := c4 _ hqk
    rw [hy] at d0 d1 d2 d3 d4 TK
    simp only at d0 d1 d2 d3 d4
    have HP : Hid (∀ w1, Below w.heap.size w w1 → Calls Tryz.prog 29 #[.agg #[.bool (kidT T (prefK T.cuts k)).leaf, .slice r1 (kidT T (prefK T.cuts k)).pairs.length s1, .slice r2 (kidT T (prefK T.cuts k)).cuts.length s2, .slice r3 (kidT T (prefK T.cuts k)).kids.length s3, .slice r4 (kidT T (prefK T.cuts k)).buf.length s4], .int .i64 k] w1 fun e w' => ∃ v', e = .returned v' ∧ w'.ownsRow w1.heap.size 37 3 v' (pendF m (kidT T (prefK T.cuts k)) k).length (flatM (pendF m (kidT T (prefK T.cuts k)) k)) ∧ Below w1.heap.size w1 w') :=
      fun w1 hb => H n ⟨(kidT T (prefK T.cuts k)).leaf, .slice r1 (kidT T (prefK T.cuts k)).pairs.length s1, .slice r2 (kidT T (prefK T.cuts k)).cuts.length s2, .slice r3 (kidT T (prefK T.cuts k)).kids.length s3, .slice r4 (kidT T (prefK T.cuts k)).buf.length s4⟩ (kidT T (prefK T.cuts k)) _ _ k w1 (TK.below hb) hdk.out
    clear c0 c1 c2 c3 c4 hk TK hy hdk hf hd TT
    rw [PE.out]
    clear PE
    rw [← hxl] at E0 B0 S0 HK ⊢
    unfold maxLen at hmax3
    generalize pendF m (kidT T (prefK T.cuts k)) k = M at *
    generalize (kidT T (prefK T.cuts k)).leaf = z0 at *
    generalize (kidT T (prefK T.cuts k)).pairs.length = z1 at *
    generalize (kidT T (prefK T.cuts k)).cuts.length = z2 at *
    generalize (kidT T (prefK T.cuts k)).kids.length = z3 at *
    generalize (kidT T (prefK T.cuts k)).buf.length = z4 at *
    generalize prefK T.cuts k = Q at *
    generalize xs.length = n3 at *
    obtain ⟨a4', b4, off4, cap4, hv4, hcap4, hmax4, ha4, e0, e1, e2⟩ := hbuf.msgs
    simp only [Value.slice.injEq, true_and] at hv4
    obtain ⟨rfl, rfl⟩ := hv4
    unfold maxLen at hmax4
    clear hbuf hrow hxl
    have OS : Hid (∀ i, i < T.buf.length → ofK (T.buf.take (i + 1)) k = if mK T.buf i = k then ofK (T.buf.take i) k ++ [(mO T.buf i, mK T.buf i, mV T.buf i)] else ofK (T.buf.take i) k) := fun i hi => ofK_succ T.buf k i hi
    have OF : Hid (ofK (T.buf.take T.buf.length) k = ofK T.buf k) := by
      show _ = _
      rw [List.take_of_length_le (Nat.le_refl _)]
    have OL : Hid (∀ i, (ofK (T.buf.take i) k).length ≤ 6) := fun i => Nat.le_trans (ofK_length _ _) (Nat.le_trans (List.length_take_le' _ _) hb6)
    have O0 : Hid (ofK (T.buf.take 0) k = []) := rfl
    generalize ofK T.buf k = BF at *
    generalize hfo : (fun i => ofK (T.buf.take i) k) = fo at *
    have hfo' : ∀ i, ofK (T.buf.take i) k = fo i := fun i => by rw [← hfo]
    simp only [hfo'] at OS OF OL O0
    clear hfo hfo'
    generalize T.pairs.length = n1 at *
    generalize T.cuts.length = n2 at *
    generalize hn4 : T.buf.length = n4 at *
    show Calls Tryz.prog 29 #[.agg #[.bool false, .slice a1 n1 q1, .slice a2 n2 q2, .slice (some ⟨b3, off3, none⟩) n3 q3, .slice a4 n4 q4], .int .i64 k] w _
    go_enter Tryz.func29, Tryz.ntmps29
    go_wp2_with fail
    refine wp_gen (fun W => OneAt W w.heap.size #[.bool false, .slice a1 n1 q1, .slice a2 n2 q2, .slice (some ⟨b3, off3, none⟩) n3 q3, .slice a4 n4 q4] ∧ W.ownsRow (w.heap.size + 1) 37 3 (.slice (some ⟨w.heap.size + 1, 0, none⟩) 0 0) 0 [] ∧ W.heap.size = w.heap.size + 1 + 1 ∧ Below w.heap.size w W) ⟨S0.out, E0.out, by simp, B0.out⟩ ?_
    rintro W ⟨SA, OE, hsz, BW⟩
    have lt3 : b3 < w.heap.size := cell_lt d0
    have KEEP : Hid (∀ w', Below (w.heap.size + 1) W w' → w'.cell? ⟨w.heap.size, 0, none⟩ = some (.bool false) ∧ w'.cell? ⟨w.heap.size, 1, none⟩ = some (.slice a1 n1 q1) ∧ w'.cell? ⟨w.heap.size, 2, none⟩ = some (.slice a2 n2 q2) ∧ w'.cell? ⟨w.heap.size, 3, none⟩ = some (.slice (some ⟨b3, off3, none⟩) n3 q3) ∧ w'.cell? ⟨w.heap.size, 4, none⟩ = some (.slice a4 n4 q4) ∧
        w'.cell? ⟨b3, off3 + Q * 5, none⟩ = some (.bool z0) ∧ w'.cell? ⟨b3, off3 + Q * 5 + 1, none⟩ = some (.slice r1 z1 s1) ∧ w'.cell? ⟨b3, off3 + Q * 5 + 2, none⟩ = some (.slice r2 z2 s2) ∧ w'.cell? ⟨b3, off3 + Q * 5 + 3, none⟩ = some (.slice r3 z3 s3) ∧ w'.cell? ⟨b3, off3 + Q * 5 + 4, none⟩ = some (.slice r4 z4 s4) ∧ Hid (Below (w.heap.size + 1) W w')) := fun w' hb => by
      obtain ⟨x0, x1, x2, x3, x4⟩ := box_cells5 (SA.stepB hb (by omega))
      exact ⟨x0, x1, x2, x3, x4, cell_lowB hb (by omega) (cell_lowB BW lt3 d0), cell_lowB hb (by omega) (cell_lowB BW lt3 d1), cell_lowB hb (by omega) (cell_lowB BW lt3 d2), cell_lowB hb (by omega) (cell_lowB BW lt3 d3), cell_lowB hb (by omega) (cell_lowB BW lt3 d4), hb⟩
    have BW' : Hid (Below w.heap.size w W) := BW
    have OE' : Hid (W.ownsRow (w.heap.size + 1) 37 3 (.slice (some ⟨w.heap.size + 1, 0, none⟩) 0 0) 0 []) := OE
    have BA : Hid (∀ w', Below (w.heap.size + 1) W w' → Below w.heap.size w w') := fun w' hb => BW'.out.trans (hb.mono (Nat.le_succ _))
    have ZS : Hid (W.heap.size = w.heap.size + 1 + 1) := hsz
    have BS : Hid (∀ w' w'', Below (w.heap.size + 1) W w' → Below w'.heap.size w' w'' → Below (w.heap.size + 1) W w'') := fun w' w'' h1 h2 => h1.trans (h2.mono (Nat.le_trans (by have := ZS.out; omega) h1.size))
    clear SA OE hsz BW E0 B0 S0
    have hq1 : (0 : Int) ≤ (Q : Int) := by omega
    have hq2 : (Q : Int) < (n3 : Int) := by omega
    have F1 : Hid (∀ y ∈ flatM M, y.oneCell' = true) := flatM_one M
    have F2 : Hid ((flatM M).length = M.length * 3) := flatM_length M
    have hM : M.length ≤ 36 := by omega
    have F3 : Hid (0 + M.length ≤ maxLen ∧ (0 + M.length) * 24 ≤ 140737488355328) := ⟨by unfold maxLen; omega, by omega⟩
    have S1 := KEEP.out W.drew (Below.refl _ _).drew
    have T1 := KEEP.out W (Below.refl _ _)
    have O1 : Hid (W.drew.ownsRow (w.heap.size + 1) 37 3 (.slice (some ⟨w.heap.size + 1, 0, none⟩) 0 0) 0 []) := owns_below OE'.out (Below.refl _ _).drew
    clear d0 d1 d2 d3 d4
    go_region_held3 (fun w' => w'.cell? ⟨w.heap.size, 0, none⟩ = some (.bool false) ∧ w'.cell? ⟨w.heap.size, 1, none⟩ = some (.slice a1 n1 q1) ∧ w'.cell? ⟨w.heap.size, 2, none⟩ = some (.slice a2 n2 q2) ∧ w'.cell? ⟨w.heap.size, 3, none⟩ = some (.slice (some ⟨b3, off3, none⟩) n3 q3) ∧ w'.cell? ⟨w.heap.size, 4, none⟩ = some (.slice a4 n4 q4) ∧
        w'.cell? ⟨b3, off3 + Q * 5, none⟩ = some (.bool z0) ∧ w'.cell? ⟨b3, off3 + Q * 5 + 1, none⟩ = some (.slice r1 z1 s1) ∧ w'.cell? ⟨b3, off3 + Q * 5 + 2, none⟩ = some (.slice r2 z2 s2) ∧ w'.cell? ⟨b3, off3 + Q * 5 + 3, none⟩ = some (.slice r3 z3 s3) ∧ w'.cell? ⟨b3, off3 + Q * 5 + 4, none⟩ = some (.slice r4 z4 s4) ∧ Hid (Below (w.heap.size + 1) W w')) (assumption) (first
      | (go_at_call 26; refine (HK.out _ (BA.out _ S1.2.2.2.2.2.2.2.2.2.2.out)).mono ?_; rintro e w2 ⟨rfl, b2⟩; have S2 := KEEP.out w2 (BS.out _ _ S1.2.2.2.2.2.2.2.2.2.2.out b2); have O2 : Hid (w2.ownsRow (w.heap.size + 1) 37 3 (.slice (some ⟨w.heap.size + 1, 0, none⟩) 0 0) 0 []) := owns_below O1.out b2; clear b2)
      | (go_at_call 29; refine (HP.out _ (BA.out _ S2.2.2.2.2.2.2.2.2.2.2.out)).mono ?_; rintro e w3 ⟨v3, rfl, o3, bb3⟩; have S3 := KEEP.out w3 (BS.out _ _ S2.2.2.2.2.2.2.2.2.2.2.out bb3); have R3 : Hid (Row w3 v3 M.length (flatM M)) := Row.of_owns o3; have O3 : Hid (w3.ownsRow (w.heap.size + 1) 37 3 (.slice (some ⟨w.heap.size + 1, 0, none⟩) 0 0) 0 []) := owns_below O2.out bb3; have hs3 : w.heap.size + 1 ≤ w3.heap.size := Nat.le_trans (by have := ZS.out; omega) S3.2.2.2.2.2.2.2.2.2.2.out.size; clear bb3 o3)
      | (refine step_app_row w3 rfl _ _ 27 rfl (w.heap.size + 1) 37 i0 _ 3 24 Tryz.underlying27 hi0 hz0 hz1 hz2 rfl (by decide) (.slice (some ⟨w.heap.size + 1, 0, none⟩) 0 0) 0 [] rfl O3.out v3 M.length (flatM M) rfl R3.out F2.out F1.out F3.out.1 F3.out.2 hs3 ?_; intro v4 w4 o4 _ b4; have S4 := KEEP.out w4 (S3.2.2.2.2.2.2.2.2.2.2.out.trans b4)))
    clear S1 T1 S2 S3 O1 O2 O3 R3 hs3
    have J4 : Hid (w4.ownsRow (w.heap.size + 1) 37 3 v4 M.length (flatM M)) := by
      have := o4
      rw [Nat.zero_add, List.nil_append] at this
      exact this
    have b4' : Hid (Below (w.heap.size + 1) W w4) := S4.2.2.2.2.2.2.2.2.2.2.out
    clear o4 b4 S4
    go_wp2
    go_loopw [5, 6] (fun out i wr => ∃ j : Nat, j ≤ n4 ∧ i = .int .i64 j ∧ Hid (wr.ownsRow (w.heap.size + 1) 37 3 out (M ++ fo j).length (flatM (M ++ fo j))) ∧ Hid (Below (w.heap.size + 1) W wr))
      (fun _ i _ => n4 - (intOf i).toNat)
    case atStart => exact ⟨0, Nat.zero_le _, rfl, by rw [O0.out, List.append_nil]; exact J4, b4'⟩
    case round =>
      obtain ⟨j, hj, rfl, ON, BN⟩ := hrel
      clear J4 b4'
      obtain ⟨g0, g1, g2, g3, g4, _⟩ := KEEP.out wr BN.out
      by_cases hlt : j < n4
      · have hal := ha4 (by omega)
        subst hal
        have t0 := cell_lowB (BA.out _ BN.out) (cell_lt (e0 j hlt)) (e0 j hlt)
        have t1 := cell_lowB (BA.out _ BN.out) (cell_lt (e1 j hlt)) (e1 j hlt)
        have t2 := cell_lowB (BA.out _ BN.out) (cell_lt (e2 j hlt)) (e2 j hlt)
        have OS1 : Hid _ := OS.out j hlt
        have hol := OL.out j
        clear e0 e1 e2 ha4
        by_cases hq : mK T.buf j = k
        · have DS : Hid (fo (j + 1) = fo j ++ [(mO T.buf j, mK T.buf j, mV T.buf j)]) := OS1.out.trans (if_pos hq)
          have e4 : (mK T.buf j == k) = true := by simp [hq]
          have HR : Hid _ := room_of (n := (M ++ fo j).length) (bytes := 24) (by rw [List.length_append]; omega) (by decide)
          have H1 : Hid _ := three_one (mO T.buf j) (mK T.buf j) (mV T.buf j)
          have hbs : w.heap.size + 1 ≤ wr.heap.size := Nat.le_trans (by have := ZS.out; omega) BN.out.size
          have OW := ON.out
          generalize mO T.buf j = x0 at *
          generalize mK T.buf j = x1 at *
          generalize mV T.buf j = x2 at *
          clear OS1 hq hol
          go_wp2_with (at_builtin; refine app_one wr rfl _ _ 27 rfl (w.heap.size + 1) 37 i0 _ 3 24 Tryz.underlying27 hi0 hz0 hz1 hz2 rfl (by decide) u5 _ _ rfl OW [.int .i64 x0, .int .i64 x1, .int .i64 x2] rfl rfl H1.out HR.out.1 HR.out.2 hbs ?_)
          intro v5 w5 o5 _ b5
          have FIN : Hid _ := And.intro o5 (BN.out.trans b5)
          clear o5 b5 OW g0 g1 g2 g3 g4 t0 t1 t2
          go_wp2
          go_roundw
          case rel => exact ⟨j + 1, by omega, by go_num, by rw [DS.out, ← List.append_assoc, flatM_append, List.length_append, List.length_append]; exact FIN.out.1, FIN.out.2⟩
          case measure => simp [intOf]; omega
        · have DS : Hid (fo (j + 1) = fo j) := OS1.out.trans (if_neg hq)
          have e4 : (mK T.buf j == k) = false := by rw [beq_eq_false_iff_ne]; exact hq
          clear OS1 hq hol
          go_wp2
          go_roundw
          case rel => exact ⟨j + 1, by omega, by go_num, by rw [DS.out]; exact ON, BN⟩
          case measure => simp [intOf]; omega
      · have hjj : j = n4 := by omega
        subst hjj
        clear e0 e1 e2 ha4
        go_wp2
        go_ret
        rw [OF.out] at ON
        exact ⟨_, rfl, owns_mono ON.out (Nat.le_succ _), BA.out _ BN.out⟩
  · rw [hl] at E0 B0 S0
    have PE : Hid (pendF (m + 1) T k = []) := by
      show _ = _
      rw [pendF, if_pos hl]
    rw [PE.out]
    generalize T.pairs.length = n1 at *
    generalize T.cuts.length = n2 at *
    generalize T.kids.length = n3 at *
    generalize T.buf.length = n4 at *
    clear hbuf hkids TT
    show Calls Tryz.prog 29 #[.agg #[.bool true, .slice a1 n1 q1, .slice a2 n2 q2, .slice a3 n3 q3, .slice a4 n4 q4], .int .i64 k] w _
    go_enter Tryz.func29, Tryz.ntmps29
    go_wp2
    go_ret
    exact ⟨_, rfl, owns_mono E0.out (Nat.le_succ _), B0.out⟩

theorem pend_0 : PendIs 0 := fun _ _ _ _ _ _ _ _ h => absurd rfl h
theorem pend_7 : PendIs 7 := pend_of (by decide) (pend_of (by decide) (pend_of (by decide) (pend_of (by decide) (pend_of (by decide) (pend_of (by decide) (pend_of (by decide) pend_0))))))

end Go.Proofs.YtmpiijphpnjlnaaGreat
