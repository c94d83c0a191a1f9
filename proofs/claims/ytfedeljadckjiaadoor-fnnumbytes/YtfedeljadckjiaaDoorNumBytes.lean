/-
  The walk of the law FnNumBytes.
-/
import Derived.Test.YtfedeljadckjiaaDoorDrawN
import Derived.Test.YtfedeljadckjiaaDoorBigAt
import Derived.Test.YtfedeljadckjiaaDoorReadMathB
import Derived.Test.YtfedeljadckjiaaDoorGetNum
import Derived.Deep.DeepCutAuto
namespace Go.Proofs.YtfedeljadckjiaaDoor
open Go.RowKit

theorem wp_gen {P : Program} {code : Code} {Q : Exit → Act → World → Prop} {a : Act} {w0 : World} (S : World → Prop) (h0 : S w0) (h : ∀ W, S W → Code.wp P code Q a W) : Code.wp P code Q a w0 := h _ h0
theorem gotN_is (G : Option (Int × Int)) : ∃ (x p : Int) (o : Bool), gotN G = .tuple #[.int .i64 x, .int .i64 p, .bool o] := by
  cases G with
  | none => exact ⟨0, 0, false, rfl⟩
  | some q => exact ⟨q.1, q.2, true, rfl⟩
theorem step_fn {P : Program} {ops : Array Oper} {o : Oper} {a : Act} {K : Act → World → Prop} {Q : Exit → Act → World → Prop} {E : Prop} {w : World} {R : Ending → World → Prop} (hwt : Region.wanted o (yielded ops a.tmps) = true) (f : FuncId) (xs : List Operand) (ats : Array TypeId)
    (ho : o.op = .call { callee := .value (.func f), args := xs.toArray, argTypes := ats }) (hrun : ∀ args w, (callFunc f args).run P w = .ok (.enter f args) w) (args : List Value) (he : xs.map a.eval = args)
    (h : Calls P f args.toArray w R) (hk : ∀ e w', R e w' → ∃ v, e = .returned v ∧ K (a.put o.dst v) w') :
    if Region.wanted o (yielded ops a.tmps) = true then Oper.wp P o a w K Q else E := by
  rw [if_pos hwt]
  have ef : a.eval (.func f) = .func (.func f) #[] #[] := rfl
  have hx : execOp a.eval o = callFunc f args.toArray := by
    unfold execOp
    simp [ho, resolve, Deferred.ofValue, invoke, ef, he]
  unfold Oper.wp
  rw [hx, hrun, Oper.upon_enter]
  refine Calls.mono h ?_
  intro e w' hr
  obtain ⟨v, rfl, hk⟩ := hk e w' hr
  exact hk
theorem code_of {w : World} {v : Value} {l : List Int} (h : Row w v l.length (flatB l)) (hl : inByte l) : Code8 w v l := ⟨h, fun j => hl.at j⟩

set_option maxRecDepth 100000 in
set_option maxHeartbeats 8000000 in
theorem fnNumBytes_any (ea : Addr) (v : Value) (l : List Int) (w : World) (h : Row w v l.length (flatB l)) (hl : inByte l) (he : ErrIs ea w) :
    Calls Tryd.prog 4 #[v] w fun e w' => e = .returned (.bool true) ∧ Below w.heap.size w w' := by
  obtain ⟨a, b, off, cap, hv, hcap, hmax, _⟩ := h.bytes
  have hle : l.length ≤ maxLen := Nat.le_trans hcap hmax
  by_cases hbig : l.length ≤ 1048576
  · obtain ⟨i0, hi, hz0, hz1, hz2⟩ := info_parts Tryd.infoByte
    have RA : Hid (Code8 w v l ∧ ErrIs ea w) := ⟨code_of h hl, he⟩
    clear h hl he
    rw [hv] at RA ⊢
    clear hv
    have hnb : decide (l.length > 1048576) = false := decide_eq_false (by omega)
    go_enter Tryd.func4, Tryd.ntmps4
    go_wp2_with fail
    refine (big_any _ _ _ hle _).mono ?_
    rintro e w0 ⟨rfl, hw0⟩
    subst hw0
    rw [hnb]
    go_wp2_with fail
    refine (drawPutNum_any _ l _ RA.out.1 hbig).mono ?_
    rintro e w1 ⟨x, rfl, b1⟩
    have B1 : Hid _ := b1
    clear b1
    go_wp2_with fail
    refine (implPutNum_any x w1).mono ?_
    rintro e w2 ⟨v2, rfl, o2, b2⟩
    have hPl := putN_length x
    have hPb := putN_byte x
    have HP : Hid (∀ r, 0 < (putN x).length → getN (putN x ++ r) 0 = some (x, ((putN x).length : Int))) := fun r hpos => by
      have hx : -2000000000 ≤ x ∧ x ≤ 2000000000 := by
        by_cases hx : -2000000000 ≤ x ∧ x ≤ 2000000000
        · exact hx
        · rw [putN_out hx] at hpos; simp at hpos
      have := getN_putN hx.1 hx.2 [] r
      simpa using this
    have SPN : Hid (∀ u, Calls Tryd.prog 20 #[.int .i64 x] u fun e w' => ∃ v, e = .returned v ∧ OwnB u.heap.size w' v (putN x) ∧ Below u.heap.size u w') := fun u => specPutNum_any x u
    have PB : Hid (inByte (putN x)) := hPb
    clear hPb
    generalize putN x = P at *
    obtain ⟨a2, q2, rfl, _, _⟩ := owns_shape o2
    have I2 : Hid (OwnB w1.heap.size w2 (.slice a2 P.length q2) P ∧ Below w0.heap.size w0 w2) := ⟨o2, Below.and B1.out b2⟩
    clear o2 b2
    go_upto_region 5 with fail
    refine wp_gen (fun V => V = w2) rfl ?_
    intro V hV
    go_cut [27] (fun s27 wx => s27 = .bool false ∧ Hid (Below w2.heap.size w2 wx))
    case first =>
      subst hV
      have cv0 : (convert 22 9 (.slice a2 P.length q2)).run Tryd.prog V.drew = .ok (.string (strOfNums P)) V.drew := conv_own (owns_below I2.out.1 (Below.refl _ _).drew)
      have hSS : ((strOfNums P).toList == (strOfNums P).toList) = true := by simp
      generalize hSP : strOfNums P = SP at cv0 hSS
      have HSP : Hid (strOfNums P = SP) := hSP
      clear hSP
      go_wp2_with fail
      go_region_with (go_at_call 20; refine (SPN.out _).mono ?_; rintro e w3 ⟨v3, rfl, o3, b3⟩; obtain ⟨a3, q3, rfl, _, _⟩ := owns_shape o3; have cv1 := conv_own o3; have cv2 := conv_own (owns_below I2.out.1 (Below.and (Below.refl _ V).drew b3)); rw [HSP.out] at cv1 cv2; have B3 : Hid (Below V.heap.size V w3) := Below.and (Below.refl _ V).drew b3; clear o3 b3)
      all_goals
        go_wp2_with fail
        go_meet
        case rel => exact ⟨rfl, B3⟩
    case rest =>
    obtain ⟨rfl, B3⟩ := hcut
    clear hV V
    have O3 : Hid (OwnB w1.heap.size wc (.slice a2 P.length q2) P ∧ Below w0.heap.size w0 wc) := ⟨owns_below I2.out.1 B3.out, Below.and I2.out.2 B3.out⟩
    have L4 : Hid (OwnB wc.heap.size (wc.alloc (.cells #[] 5)) (.slice (some ⟨wc.heap.size, 0, none⟩) 0 0) [] ∧ Row (wc.alloc (.cells #[] 5)) (.slice a2 P.length q2) P.length (flatB P) ∧ Below w0.heap.size w0 (wc.alloc (.cells #[] 5))) :=
      ⟨empty_own wc wc.heap.size 5 1 (Nat.le_refl _), (OwnB.row O3.out.1).below (bel_new _ _), O3.out.2.alloc O3.out.2.size _⟩
    have HR4 : Hid _ := roomB (n := 0) (m := P.length) (by omega)
    have hs4 : wc.heap.size ≤ (wc.alloc (.cells #[] 5)).heap.size := by simp
    clear B3 I2
    go_wp2_with (at_builtin; refine app_row (wc.alloc (.cells #[] 5)) rfl _ _ 22 rfl wc.heap.size 5 i0 _ 1 1 Tryd.underlying22 hi hz0 hz1 hz2 rfl (by decide) (.slice (some ⟨wc.heap.size, 0, none⟩) 0 0) 0 (flatB []) rfl L4.out.1 (.slice a2 P.length q2) P.length (flatB P) rfl L4.out.2.1 (by rw [flatB_length]; omega) (flatB_one _) HR4.out.1 HR4.out.2 hs4 ?_)
    intro v5 w5 ho5 _ hb5
    have o5 : OwnB wc.heap.size w5 v5 P := by unfold OwnB; simpa [flatB] using ho5
    have B5 : Below w0.heap.size w0 w5 := L4.out.2.2.trans (hb5.mono O3.out.2.size)
    have hs5 : wc.heap.size ≤ w5.heap.size := Nat.le_trans hs4 hb5.size
    obtain ⟨a5, q5, rfl, _, _⟩ := owns_shape o5
    have I5 : Hid _ := And.intro o5 B5
    clear ho5 hb5 o5 B5 L4 hs4
    go_wp2_with fail
    refine (at_any _ l _ (RA.out.1.below I5.out.2) hbig 1 (by decide)).mono ?_
    rintro e w6 ⟨⟨y, rfl, hy0, hy1⟩, hw6⟩
    subst hw6
    have hw8 : IntKind.u8.wrap y = y := by rw [IntKind.wrap_u8]; omega
    have L6 : Hid (OwnB wc.heap.size (w6.alloc (.cells #[.int .u8 y] 5)) (.slice a5 P.length q5) P ∧ Row (w6.alloc (.cells #[.int .u8 y] 5)) (.slice (some ⟨w6.heap.size, 0, none⟩) 1 1) 1 (flatB [y]) ∧ Below w0.heap.size w0 (w6.alloc (.cells #[.int .u8 y] 5))) :=
      ⟨owns_below I5.out.1 (bel_new _ _), Row.laidN w6 (flatB [y]) 5 1 rfl (by decide), I5.out.2.alloc I5.out.2.size _⟩
    have HR6 : Hid _ := roomB (n := P.length) (m := 1) (by omega)
    have hs6 : wc.heap.size ≤ (w6.alloc (.cells #[.int .u8 y] 5)).heap.size := by simp; omega
    clear I5
    go_wp2_with (at_builtin; refine app_row (w6.alloc (.cells #[.int .u8 y] 5)) rfl _ _ 22 rfl wc.heap.size 5 i0 _ 1 1 Tryd.underlying22 hi hz0 hz1 hz2 rfl (by decide) (.slice a5 P.length q5) P.length (flatB P) rfl L6.out.1 (.slice (some ⟨w6.heap.size, 0, none⟩) 1 1) 1 (flatB [y]) rfl L6.out.2.1 rfl (flatB_one _) HR6.out.1 HR6.out.2 hs6 ?_)
    intro v7 w7 ho7 _ hb7
    have o7 : OwnB wc.heap.size w7 v7 (P ++ [y]) := by unfold OwnB; rw [flatB_append]; simpa using ho7
    have B7 : Below w0.heap.size w0 w7 := L6.out.2.2.trans (hb7.mono O3.out.2.size)
    have hin7 : inByte (P ++ [y]) := fun z hz => by
      rcases List.mem_append.1 hz with h | h
      · exact PB.out z h
      · simp at h; omega
    have R7 := OwnB.row o7
    have I7 : Hid _ := And.intro hin7 B7
    clear ho7 hb7 o7 B7 hin7 L6 hs6
    go_wp2_with fail
    refine (implGetNum_any ea _ (P ++ [y]) 0 _ R7 I7.out.1 (RA.out.2.below I7.out.2)).mono ?_
    rintro e w8 ⟨rfl, b8⟩
    have B8 : Hid (Below w0.heap.size w0 w8) := Below.and I7.out.2 b8
    have HP1 : Hid _ := HP.out [y]
    clear b8 R7 I7 HP
    generalize getN (P ++ [y]) 0 = G at *
    obtain ⟨gx, gp, go, hgo⟩ := gotN_is G
    have PASS : Hid (0 < P.length → gx = x ∧ gp = (P.length : Int) ∧ go = true) := fun hpos => by
      have := HP1.out hpos
      rw [this] at hgo
      simp [gotN] at hgo
      exact ⟨hgo.1.symm, hgo.2.1.symm, hgo.2.2⟩
    rw [hgo]
    clear hgo HP1
    go_upto_region 8 with fail
    refine wp_gen (fun V => V = w8) rfl ?_
    intro V hV
    go_cut [58] (fun s58 wx => s58 = .bool false ∧ wx = w8)
    case first =>
      subst hV
      by_cases hpos : 0 < P.length
      · obtain ⟨rfl, rfl, rfl⟩ := PASS.out hpos
        have q1 : (gx != gx) = false := by simp
        have q2 : ((P.length : Int) != (P.length : Int)) = false := by simp
        have q3 : 0 < (P.length : Int) := by omega
        go_wp2_with fail
        go_meet
        case rel => exact ⟨rfl, rfl⟩
      · have q0 : P.length = 0 := by omega
        have q3 : decide (0 < (P.length : Int)) = false := decide_eq_false (by omega)
        generalize P.length = pl at *
        subst q0
        go_wp2_with fail
        go_meet
        case rel => exact ⟨rfl, rfl⟩
    case rest =>
    obtain ⟨rfl, hwc8⟩ := hcut
    subst hwc8
    clear hV V
    go_wp2_with fail
    refine (drawGetNum_any _ l _ (RA.out.1.below B8.out) hbig).mono ?_
    rintro e w9 ⟨v9, R, k, rfl, o9, hR, hRl, b9⟩
    obtain ⟨a9, q9, rfl, _, hq9⟩ := owns_shape o9
    have R9 := OwnB.row o9
    have I9 : Hid (OwnB 0 w9 (.slice a9 R.length q9) R ∧ inByte R ∧ Below w0.heap.size w0 w9) := ⟨owns_mono o9 (Nat.zero_le _), hR, Below.and B8.out b9⟩
    clear o9 b9 hR
    go_wp2_with fail
    have IG : Hid (∀ u, Row u (.slice a9 R.length q9) R.length (flatB R) → ErrIs ea u → Calls Tryd.prog 21 #[.slice a9 R.length q9, .int .i64 k] u fun e w' => e = .returned (gotN (getN R k)) ∧ Below u.heap.size u w') := fun u hu hE => implGetNum_any ea _ R k u hu I9.out.2.1 hE
    have GB : Hid (∀ z p, getN R k = some (z, p) → 0 ≤ k ∧ p = k + (putN z).length ∧ 0 < (putN z).length ∧ p ≤ R.length ∧ (-2000000000 ≤ z ∧ z ≤ 2000000000) ∧ putN z = (R.drop k.toNat).take (putN z).length) := fun z p hg => putN_getN I9.out.2.1 hg
    have SG : Hid (∀ u, Row u (.slice a9 R.length q9) R.length (flatB R) → Calls Tryd.prog 24 #[.slice a9 R.length q9, .int .i64 k] u fun e w' => e = .returned (gotN (getN R k)) ∧ Below u.heap.size u w') := fun u hu => specGetNum_any _ R k u hu I9.out.2.1 (by omega)
    cases hG : getN R k with
    | none =>
      rw [hG] at SG IG
      have eT : gotN none = .tuple #[.int .i64 0, .int .i64 0, .bool false] := rfl
      rw [eT] at SG IG
      clear eT
      refine (IG.out _ R9 (RA.out.2.below I9.out.2.2)).mono ?_
      rintro e w10 ⟨rfl, b10⟩
      have R10 := R9.below b10
      have I10 : Hid (Below w9.heap.size w9 w10) := b10
      clear b10 R9 IG
      go_wp2_with fail
      refine (SG.out _ R10).mono ?_
      rintro e w11 ⟨rfl, b11⟩
      have B11 : Hid (Below w0.heap.size w0 w11) := Below.and I9.out.2.2 (Below.and I10.out b11)
      clear b11 R10 SG GB hG
      have z1 : (false != false) = false := rfl
      have z2 : ((0 : Int) != 0) = false := rfl
      go_wp2_with fail
      go_quiet (fail)
      go_wp2
      go_ret
      exact ⟨rfl, below_drewN B11.out nq⟩
    | some zp =>
      obtain ⟨z, p⟩ := zp
      have HZ : Hid _ := GB.out z p hG
      rw [hG] at SG IG
      have eT : gotN (some (z, p)) = .tuple #[.int .i64 z, .int .i64 p, .bool true] := rfl
      rw [eT] at SG IG
      clear eT
      refine (IG.out _ R9 (RA.out.2.below I9.out.2.2)).mono ?_
      rintro e w10 ⟨rfl, b10⟩
      have R10 := R9.below b10
      have I10 : Hid (Below w9.heap.size w9 w10) := b10
      clear b10 R9 IG
      go_wp2_with fail
      refine (SG.out _ R10).mono ?_
      rintro e w11 ⟨rfl, b11⟩
      have B11 : Hid (Below w0.heap.size w0 w11) := Below.and I9.out.2.2 (Below.and I10.out b11)
      have O11 : Hid (OwnB 0 w11 (.slice a9 R.length q9) R) := owns_below I9.out.1 (Below.and I10.out b11)
      clear b11 R10 SG GB hG
      have z1 : (true != true) = false := rfl
      have z2 : (p != p) = false := by simp
      obtain ⟨hk0, hpe, hpos, hpR, hz, hpz⟩ := HZ.out
      have hex : ∃ g, a9 = some ⟨g, 0, none⟩ := by
        obtain ⟨_, ⟨e, e2⟩ | ⟨g, cap', cur, e, _⟩⟩ := O11.out
        · omega
        · simp at e; exact ⟨g, e.1⟩
      obtain ⟨g, rfl⟩ := hex
      obtain ⟨kn, rfl⟩ := Int.eq_ofNat_of_zero_le hk0
      rw [Int.toNat_natCast] at hpz
      have hRq : R.length ≤ q9 := by
        obtain ⟨_, ⟨e, e2⟩ | ⟨g', cap', cur, e, _, _, hn, _⟩⟩ := O11.out
        · cases e
        · simp at e; omega
      have CP : Hid (∀ u c, Below w11.heap.size w11 u → (convert 22 9 (.slice (some ⟨g, kn, none⟩) (putN z).length c)).run Tryd.prog u = .ok (.string (strOfNums (putN z))) u) := fun u c hu => by
        have := conv_part (owns_below O11.out hu) kn (putN z).length c (by omega)
        rw [← hpz] at this
        exact this
      have SPZ : Hid (∀ u, Calls Tryd.prog 19 #[.int .i64 z] u fun e w' => ∃ v, e = .returned v ∧ OwnB u.heap.size w' v (putN z) ∧ Below u.heap.size u w') := fun u => implPutNum_any z u
      have hPzl := putN_length z
      clear hpz
      generalize hPZ : putN z = PZ at *
      clear hPZ
      have hpl : p = ((kn + PZ.length : Nat) : Int) := by omega
      subst hpl
      have hne : ¬ q9 = kn := by omega
      have f1 : (0 : Int) ≤ (kn : Int) + (PZ.length : Int) := by omega
      have f2 : (kn : Int) + (PZ.length : Int) ≤ (q9 : Int) := by omega
      have f3 : kn ≤ ((kn : Int) + (PZ.length : Int)).toNat := by omega
      have f4 : ((kn : Int) + (PZ.length : Int)).toNat - kn = PZ.length := by omega
      go_wp2_with fail
      refine wp_region_held_drew (S := fun u => Hid (Below w11.heap.size w11 u)) (by kernel_rfl) ((Below.refl _ _).drew) (fun hS0 => ?_)
      refine wpAnyH_take (i := 0) (oi := ⟨_, _, _, _, _, _⟩) (v := ?_) rfl (by kernel_rfl) (by kernel_rfl) (by kernel_rfl) (fun _ _ _ h => h) (Or.inl ⟨by rfl, ?_⟩) (by assumption) ?_
      rotate_left
      · ((intro w hSw; (try dsimp only at hSw); go_simp); (try with_reducible rfl))
      try simp only [Act.put, List.setIfInBounds_toArray, List.set_cons_zero, List.set_cons_succ]
      refine wpAnyH_take (i := 1) (oi := ⟨_, _, _, _, _, _⟩) (v := ?_) rfl (by kernel_rfl) (by kernel_rfl) (by kernel_rfl) (fun _ _ _ h => h) (Or.inl ⟨by rfl, ?_⟩) (by assumption) ?_
      rotate_left
      · ((intro w hSw; (try dsimp only at hSw); go_simp); (try with_reducible rfl))
      try simp only [Act.put, List.setIfInBounds_toArray, List.set_cons_zero, List.set_cons_succ]
      refine wpAnyH_take (i := 2) (oi := ⟨_, _, _, _, _, _⟩) (v := ?_) rfl (by kernel_rfl) (by kernel_rfl) (by kernel_rfl) (fun _ _ _ h => h) (Or.inl ⟨by rfl, ?_⟩) (by assumption) ?_
      rotate_left
      · ((intro w hSw; (try dsimp only at hSw); go_simp); (try with_reducible rfl))
      try simp only [Act.put, List.setIfInBounds_toArray, List.set_cons_zero, List.set_cons_succ]
      refine wpAnyH_take (i := 3) (oi := ⟨_, _, _, _, _, _⟩) (v := undef) rfl (by kernel_rfl) (by kernel_rfl) (by kernel_rfl) (fun _ _ _ h => h) (Or.inr ⟨by rfl, rfl⟩) (by assumption) ?_
      try simp only [Act.put, List.setIfInBounds_toArray, List.set_cons_zero, List.set_cons_succ]
      refine wpAnyH_take (i := 4) (oi := ⟨_, _, _, _, _, _⟩) (v := undef) rfl (by kernel_rfl) (by kernel_rfl) (by kernel_rfl) (fun _ _ _ h => h) (Or.inr ⟨by rfl, rfl⟩) (by assumption) ?_
      try simp only [Act.put, List.setIfInBounds_toArray, List.set_cons_zero, List.set_cons_succ]
      refine wpAnyH_take (i := 5) (oi := ⟨_, _, _, _, _, _⟩) (v := ?_) rfl (by kernel_rfl) (by kernel_rfl) (by kernel_rfl) (fun _ _ _ h => h) (Or.inl ⟨by rfl, ?_⟩) (by assumption) ?_
      rotate_left
      · ((intro w hSw; (try dsimp only at hSw); go_simp); (try with_reducible rfl))
      try simp only [Act.put, List.setIfInBounds_toArray, List.set_cons_zero, List.set_cons_succ]
      refine wpAnyH_take (i := 6) (oi := ⟨_, _, _, _, _, _⟩) (v := ?_) rfl (by kernel_rfl) (by kernel_rfl) (by kernel_rfl) (fun _ _ _ h => h) (Or.inl ⟨by rfl, ?_⟩) (by assumption) ?_
      rotate_left
      · ((intro w hSw; (try dsimp only at hSw); go_simp); (try with_reducible rfl))
      try simp only [Act.put, List.setIfInBounds_toArray, List.set_cons_zero, List.set_cons_succ]
      refine wpAnyH_take (i := 7) (oi := ⟨_, _, _, _, _, _⟩) (v := undef) rfl (by kernel_rfl) (by kernel_rfl) (by kernel_rfl) (fun _ _ _ h => h) (Or.inr ⟨by rfl, rfl⟩) (by assumption) ?_
      try simp only [Act.put, List.setIfInBounds_toArray, List.set_cons_zero, List.set_cons_succ]
      refine wpAnyH_take (i := 8) (oi := ⟨_, _, _, _, _, _⟩) (v := undef) rfl (by kernel_rfl) (by kernel_rfl) (by kernel_rfl) (fun _ _ _ h => h) (Or.inr ⟨by rfl, rfl⟩) (by assumption) ?_
      try simp only [Act.put, List.setIfInBounds_toArray, List.set_cons_zero, List.set_cons_succ]
      refine wpAnyH_take (i := 9) (oi := ⟨_, _, _, _, _, _⟩) (v := ?_) rfl (by kernel_rfl) (by kernel_rfl) (by kernel_rfl) (fun _ _ _ h => h) (Or.inl ⟨by rfl, ?_⟩) (by assumption) ?_
      rotate_left
      · ((intro w hSw; (try dsimp only at hSw); go_simp); (try with_reducible rfl))
      try simp only [Act.put, List.setIfInBounds_toArray, List.set_cons_zero, List.set_cons_succ]
      refine wpAnyH_take (i := 10) (oi := ⟨_, _, _, _, _, _⟩) (v := ?_) rfl (by kernel_rfl) (by kernel_rfl) (by kernel_rfl) (fun _ _ _ h => h) (Or.inl ⟨by rfl, ?_⟩) (by assumption) ?_
      rotate_left
      · ((intro w hSw; (try dsimp only at hSw); go_simp); (try with_reducible rfl))
      try simp only [Act.put, List.setIfInBounds_toArray, List.set_cons_zero, List.set_cons_succ]
      refine wpAnyH_take (i := 11) (oi := ⟨_, _, _, _, _, _⟩) (v := ?_) rfl (by kernel_rfl) (by kernel_rfl) (by kernel_rfl) (fun _ _ _ h => h) (Or.inl ⟨by rfl, ?_⟩) (by assumption) ?_
      rotate_left
      · ((intro w hSw; (try dsimp only at hSw); go_simp); (try with_reducible rfl))
      try simp only [Act.put, List.setIfInBounds_toArray, List.set_cons_zero, List.set_cons_succ]
      refine wpAnyH_take (i := 12) (oi := ⟨_, _, _, _, _, _⟩) (v := ?_) rfl (by kernel_rfl) (by kernel_rfl) (by kernel_rfl) (fun _ _ _ h => h) (Or.inl ⟨by rfl, ?_⟩) (by assumption) ?_
      rotate_left
      · ((intro w hSw; (try dsimp only at hSw); go_simp); (try with_reducible rfl))
      try simp only [Act.put, List.setIfInBounds_toArray, List.set_cons_zero, List.set_cons_succ]
      refine wpAnyH_take (i := 13) (oi := ⟨_, _, _, _, _, _⟩) (v := ?_) rfl (by kernel_rfl) (by kernel_rfl) (by kernel_rfl) (fun _ _ _ h => h) (Or.inl ⟨by rfl, ?_⟩) (by assumption) ?_
      rotate_left
      · ((intro w hSw; (try dsimp only at hSw); go_simp); (try with_reducible rfl))
      try simp only [Act.put, List.setIfInBounds_toArray, List.set_cons_zero, List.set_cons_succ]
      refine wpAnyH_take (i := 16) (oi := ⟨_, _, _, _, _, _⟩) (v := ?_) rfl (by kernel_rfl) (by kernel_rfl) (by kernel_rfl) (fun _ _ _ h => h) (Or.inl ⟨by rfl, ?_⟩) (by assumption) ?_
      rotate_left
      · ((intro w hSw; (try dsimp only at hSw); go_simp); (try with_reducible rfl))
      try simp only [Act.put, List.setIfInBounds_toArray, List.set_cons_zero, List.set_cons_succ]
      refine wpAnyH_take (i := 17) (oi := ⟨_, _, _, _, _, _⟩) (v := ?_) rfl (by kernel_rfl) (by kernel_rfl) (by kernel_rfl) (fun _ _ _ h => h) (Or.inl ⟨by rfl, ?_⟩) (by assumption) ?_
      rotate_left
      · ((intro w hSw; (try dsimp only at hSw); go_simp); (try with_reducible rfl))
      try simp only [Act.put, List.setIfInBounds_toArray, List.set_cons_zero, List.set_cons_succ]
      refine wpAnyH_take (i := 18) (oi := ⟨_, _, _, _, _, _⟩) (v := ?_) rfl (by kernel_rfl) (by kernel_rfl) (by kernel_rfl) (fun _ _ _ h => h) (Or.inl ⟨by rfl, ?_⟩) (by assumption) ?_
      rotate_left
      · ((intro w hSw; (try dsimp only at hSw); go_simp); (try with_reducible rfl))
      try simp only [Act.put, List.setIfInBounds_toArray, List.set_cons_zero, List.set_cons_succ]
      refine wpAnyH_take (i := 19) (oi := ⟨_, _, _, _, _, _⟩) (v := ?_) rfl (by kernel_rfl) (by kernel_rfl) (by kernel_rfl) (fun _ _ _ h => h) (Or.inl ⟨by rfl, ?_⟩) (by assumption) ?_
      rotate_left
      · ((intro w hSw; (try dsimp only at hSw); go_simp); (try with_reducible rfl))
      try simp only [Act.put, List.setIfInBounds_toArray, List.set_cons_zero, List.set_cons_succ]
      refine wpAnyH_take (i := 20) (oi := ⟨_, _, _, _, _, _⟩) (v := .string (strOfNums PZ)) rfl (by kernel_rfl) (by kernel_rfl) (by kernel_rfl) (fun _ _ _ h => h) (Or.inl ⟨by rfl, fun u hu => ?_⟩) (by assumption) ?_
      · have cvx := CP.out u (q9 - kn) hu
        go_simp
      try simp only [Act.put, List.setIfInBounds_toArray, List.set_cons_zero, List.set_cons_succ]
      refine wpAnyH_ready (rs := [14]) (by kernel_rfl) (by simp) ?_
      refine AllReadyH.cons (o := ⟨_, _, _, _, _, _⟩) rfl (fun K hK => ?_) AllReadyH.nil
      have hrun : ∀ args w, (callFunc 19 args).run Tryd.prog w = .ok (.enter 19 args) w := fun args w => by go_simp
      refine step_fn rfl 19 [.tmp 99] #[3] rfl hrun [.int .i64 z] rfl (SPZ.out _) ?_
      rintro e w12 ⟨v12, rfl, o12, b12⟩
      obtain ⟨a12, q12, rfl, _, _⟩ := owns_shape o12
      have cvy := conv_own o12
      have B12 : Hid (Below w11.heap.size w11 w12) := Below.and (Below.refl _ w11).drew b12
      refine ⟨_, rfl, ?_⟩
      clear o12 b12
      refine hK.out _ _ B12 (fun hH => ?_)
      clear hK K
      try simp only [Act.put, List.setIfInBounds_toArray, List.set_cons_zero, List.set_cons_succ]
      refine wpAnyH_ready (rs := [15]) (by kernel_rfl) (by simp) ?_
      refine AllReadyH.cons (o := ⟨_, _, _, _, _, _⟩) rfl (fun K hK => ?_) AllReadyH.nil
      go_simp
      refine hK.out _ _ B12 (fun hH => ?_)
      clear hK K
      try simp only [Act.put, List.setIfInBounds_toArray, List.set_cons_zero, List.set_cons_succ]
      have hSS : ((strOfNums PZ).toList == (strOfNums PZ).toList) = true := by simp
      refine wpAnyH_take (i := 21) (oi := ⟨_, _, _, _, _, _⟩) (v := ?_) rfl (by kernel_rfl) (by kernel_rfl) (by kernel_rfl) (fun _ _ _ h => h) (Or.inl ⟨by rfl, ?_⟩) (by assumption) ?_
      rotate_left
      · ((intro w hSw; (try dsimp only at hSw); go_simp); (try with_reducible rfl))
      try simp only [Act.put, List.setIfInBounds_toArray, List.set_cons_zero, List.set_cons_succ]
      refine wpAnyH_take (i := 22) (oi := ⟨_, _, _, _, _, _⟩) (v := ?_) rfl (by kernel_rfl) (by kernel_rfl) (by kernel_rfl) (fun _ _ _ h => h) (Or.inl ⟨by rfl, ?_⟩) (by assumption) ?_
      rotate_left
      · ((intro w hSw; (try dsimp only at hSw); go_simp); (try with_reducible rfl))
      try simp only [Act.put, List.setIfInBounds_toArray, List.set_cons_zero, List.set_cons_succ]
      refine wpAnyH_take (i := 23) (oi := ⟨_, _, _, _, _, _⟩) (v := ?_) rfl (by kernel_rfl) (by kernel_rfl) (by kernel_rfl) (fun _ _ _ h => h) (Or.inl ⟨by rfl, ?_⟩) (by assumption) ?_
      rotate_left
      · ((intro w hSw; (try dsimp only at hSw); go_simp); (try with_reducible rfl))
      try simp only [Act.put, List.setIfInBounds_toArray, List.set_cons_zero, List.set_cons_succ]
      refine wpAnyH_take (i := 24) (oi := ⟨_, _, _, _, _, _⟩) (v := ?_) rfl (by kernel_rfl) (by kernel_rfl) (by kernel_rfl) (fun _ _ _ h => h) (Or.inl ⟨by rfl, ?_⟩) (by assumption) ?_
      rotate_left
      · ((intro w hSw; (try dsimp only at hSw); go_simp); (try with_reducible rfl))
      try simp only [Act.put, List.setIfInBounds_toArray, List.set_cons_zero, List.set_cons_succ]
      refine wpAnyH_done (by kernel_rfl) ?_ _
      go_wp2
      go_ret
      exact ⟨rfl, B11.out.trans (B12.out.mono B11.out.size)⟩
  · have hnb : decide (l.length > 1048576) = true := decide_eq_true (by omega)
    rw [hv]
    clear h hv
    go_enter Tryd.func4, Tryd.ntmps4
    go_wp2_with fail
    refine (big_any _ _ _ hle _).mono ?_
    rintro e w0 ⟨rfl, hw0⟩
    subst hw0
    rw [hnb]
    go_wp2
    go_ret
    exact ⟨rfl, Below.refl _ _⟩

end Go.Proofs.YtfedeljadckjiaaDoor
