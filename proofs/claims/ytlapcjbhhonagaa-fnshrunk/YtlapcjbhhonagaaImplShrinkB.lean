/-
  The contract of the program's way to leave out what is overruled.
-/
import Derived.Test.YtlapcjbhhonagaaImplShrinkA
import Derived.Test.YtlapcjbhhonagaaMathRul
import Derived.Test.YtlapcjbhhonagaaImplAll
namespace Go.Proofs.Ytlapcjbhhonagaa
open Go.RowKit

theorem rulers_asc (l : ML) : ∀ k, Asc (rulersF l k)
  | 0 => List.Pairwise.nil
  | k + 1 => by rw [rulersF]; split; exact putF_asc (rulers_asc l k) _ _; exact rulers_asc l k

theorem get_map_b (B : Nat) (F : Nat → Prop) (l : PL) (k : Int) (w : World) (h : SrtM w B F l) (hs : Asc l) (hbig : l.length ≤ 1048576) :
    Calls Try.prog 72 #[.pointer (some ⟨B, 0, none⟩), .int .i64 k] w fun e w' => e = .returned (.tuple #[.int .i64 (getP l k).1, .bool (getP l k).2]) ∧ Below w.heap.size w w' :=
  (get_map B F l k w h hs hbig).mono fun _ _ ⟨he, q, hq⟩ => ⟨he, hq ▸ below_drewN (Below.refl _ _) q⟩

set_option maxRecDepth 100000 in
set_option maxHeartbeats 4000000 in
theorem withoutOverruled_any (vm : Value) (l : ML) (w : World) (hm : Row w vm l.length (l.map encC)) (hok : ∀ m ∈ l, okM m = true) (hn : l.length ≤ 2097152) :
    Calls Try.prog 47 #[vm] w fun e w' => ∃ v', e = .returned v' ∧ w'.ownsRow w.heap.size 69 1 v' (woF l).length ((woF l).map encC) ∧ Below w.heap.size w w' := by
  obtain ⟨i0, hi, hz0, hz1, hz2⟩ := info_parts Try.info69
  obtain ⟨a, b, off, cap, rfl, hcap, hmax, ha, hc⟩ := hm.changes
  unfold maxLen at hmax
  have OK : Hid (∀ m ∈ l, okM m = true) := hok
  have HC : Hid _ := hc
  have RMAP : Hid (∀ k, k ≤ l.length → MapP (rulersF l k)) := fun k hk => rulers_mapP OK.out k hk (by omega)
  have b0 : Below w.heap.size w (w.alloc (.cells #[.slice none 0 0, .slice none 0 0] 78)) := (Below.refl _ _).alloc (Nat.le_refl _) _
  have START : Hid (SrtM (w.alloc (.cells #[.slice none 0 0, .slice none 0 0] 78)) w.heap.size (fun g => g = w.heap.size) []) :=
    ⟨.slice none 0 0, .slice none 0 0, heap_alloc_new _ _, World.ownsRow_nil _ _ _ _, World.ownsRow_nil _ _ _ _, fun g hg => by simp [Value.ownBlock] at hg, rfl, fun g hg => by simp [Value.ownBlock] at hg, fun g hg => by simp [Value.ownBlock] at hg⟩
  have BB : Hid _ := b0
  clear hm hok b0 hc
  go_enter Try.func47, Try.ntmps47
  go_wp2
  generalize hW0 : w.alloc (.cells #[.slice none 0 0, .slice none 0 0] 78) = W0 at *
  clear hW0
  go_loopw [13] (fun i wr => ∃ (k : Nat) (F : Nat → Prop), k ≤ l.length ∧ i = .int .i64 k ∧ Hid (SrtM wr w.heap.size F (rulersF l k)) ∧ Hid (∀ g, F g → w.heap.size ≤ g) ∧ Hid (Below w.heap.size w wr))
    (fun i _ => l.length - (intOf i).toNat)
  case atStart => exact ⟨0, _, Nat.zero_le _, rfl, START, fun g hg => by omega, BB.out⟩
  case round =>
    obtain ⟨k, F, hkl, rfl, hsrt, hF, hb⟩ := hrel
    by_cases hlt : k < l.length
    · have hal := ha (by omega)
      subst hal
      have d0 := (hb.out.cell (by exact cell_lt (HC.out k hlt))).trans (HC.out k hlt)
      obtain ⟨t, x, f, g, CH⟩ := chd_of (ml_ok OK.out hlt)
      have CHH : Hid _ := CH
      obtain ⟨z1, t99⟩ := CH.t99
      obtain ⟨z2, t105⟩ := CH.t105
      have hmk := CH.hk
      have hek := CH.ek
      rw [CH.enc] at d0
      have RM := RMAP.out k hkl
      have hRl := mapP_length RM
      have NEXT : Hid (rulersF l (k + 1) = if rulAt l k = true then putF (rulersF l k) (mK l k) k else rulersF l k) := rfl
      clear CH RM
      simp only at t99 t105
      by_cases hr : rulAt l k = true
      · have hq : (mO l k == 1) = true ∨ ((mO l k == 1) = false ∧ (mO l k == 2) = true) := by
          simp only [rulAt, Bool.or_eq_true] at hr
          cases h1 : (mO l k == 1)
          · rw [h1] at hr; simp at hr; exact Or.inr ⟨rfl, by simpa using hr⟩
          · exact Or.inl rfl
        have NX : Hid _ := NEXT.out.trans (if_pos hr)
        clear hr NEXT
        have key : ∀ wn, Below wr.heap.size wr wn → Hid (SrtM wn w.heap.size F (rulersF l k)) := fun wn hwn => hsrt.out.below hwn
        have KEY : Hid _ := key
        clear key
        rcases hq with q1 | ⟨q1, q2⟩
        · rw [q1] at t99
          clear q1
          go_wp2_with fail
          refine (CHH.out.ck _).mono ?_
          rintro e w1 ⟨rfl, b1⟩
          have B1 : Hid _ := b1
          clear b1
          go_wp2_with fail
          refine (put_map w.heap.size F (rulersF l k) _ _ _ (KEY.out _ B1.out).out (rulers_asc l k) (by omega)).mono ?_
          rintro e w2 ⟨rfl, F', h1, h2, h3⟩
          have FIN : Hid _ := And.intro h1 (And.intro (show ∀ g', F' g' → w.heap.size ≤ g' from fun g' hg' => (h3 g' hg').elim (fun hh => hF.out g' hh) (fun hh => by have := hb.out.size; have := B1.out.size; omega)) ((Below.and hb.out B1.out).trans (h2.below (fun g' _ hg' => hF.out g' hg') (by have := hb.out.size; have := B1.out.size; omega))))
          clear h1 h2 h3
          go_wp2
          go_roundw
          case rel => exact ⟨k + 1, F', by omega, by go_num, by rw [NX.out]; exact FIN.out.1, FIN.out.2.1, FIN.out.2.2⟩
          case measure => simp [intOf]; omega
        · rw [q1] at t99
          rw [q2] at t105
          clear q1 q2
          go_wp2_with fail
          refine (CHH.out.ck _).mono ?_
          rintro e w1 ⟨rfl, b1⟩
          have B1 : Hid _ := b1
          clear b1
          go_wp2_with fail
          refine (put_map w.heap.size F (rulersF l k) _ _ _ (KEY.out _ B1.out).out (rulers_asc l k) (by omega)).mono ?_
          rintro e w2 ⟨rfl, F', h1, h2, h3⟩
          have FIN : Hid _ := And.intro h1 (And.intro (show ∀ g', F' g' → w.heap.size ≤ g' from fun g' hg' => (h3 g' hg').elim (fun hh => hF.out g' hh) (fun hh => by have := hb.out.size; have := B1.out.size; omega)) ((Below.and hb.out B1.out).trans (h2.below (fun g' _ hg' => hF.out g' hg') (by have := hb.out.size; have := B1.out.size; omega))))
          clear h1 h2 h3
          go_wp2
          go_roundw
          case rel => exact ⟨k + 1, F', by omega, by go_num, by rw [NX.out]; exact FIN.out.1, FIN.out.2.1, FIN.out.2.2⟩
          case measure => simp [intOf]; omega
      · have q1 : (mO l k == 1) = false := by
          cases h1 : (mO l k == 1)
          · rfl
          · exact absurd (show rulAt l k = true by simp [rulAt, h1]) hr
        have q2 : (mO l k == 2) = false := by
          cases h1 : (mO l k == 2)
          · rfl
          · exact absurd (show rulAt l k = true by simp [rulAt, h1]) hr
        have NX : Hid _ := NEXT.out.trans (if_neg hr)
        clear hr NEXT
        rw [q1] at t99
        rw [q2] at t105
        clear q1 q2
        go_wp2
        go_roundw
        case rel => exact ⟨k + 1, F, by omega, by go_num, by rw [NX.out]; exact hsrt, hF, hb⟩
        case measure => simp [intOf]; omega
    · have hkk : k = l.length := by omega
      subst hkk
      have RM := RMAP.out l.length (Nat.le_refl _)
      have hRl := mapP_length RM
      have KI : Hid _ := @keep_iff l (rulers_asc l)
      have RA : Hid _ := rulers_asc l l.length
      generalize rulersF l l.length = R at *
      clear RM RMAP START BB hF
      obtain ⟨wA, rfl⟩ : ∃ x, x = wr := ⟨_, rfl⟩
      go_wp2
      go_loopw [6, 33] (fun out i w5 => ∃ (k : Nat) (A : ML), k ≤ l.length ∧ i = .int .i64 k ∧ A.length ≤ k ∧ Hid (A ++ woF (l.drop k) = woF l) ∧ Hid (w5.ownsRow wA.heap.size 69 1 out A.length (A.map encC)) ∧ Hid (Below wA.heap.size wA w5))
        (fun _ i _ => l.length - (intOf i).toNat)
      case atStart => exact ⟨0, [], Nat.zero_le _, rfl, Nat.le_refl _, rfl, World.ownsRow_nil _ _ _ _, Below.refl _ _⟩
      case round =>
        obtain ⟨k, A, hkl, rfl, hAl, hwo, hown, hb5⟩ := hrel
        by_cases hlt : k < l.length
        · have hal := ha (by omega)
          subst hal
          have bw : Hid (Below w.heap.size w wr) := Below.and hb.out hb5.out
          have d0 := (bw.out.cell (by exact cell_lt (HC.out k hlt))).trans (HC.out k hlt)
          obtain ⟨t, x, f, g, CH⟩ := chd_of (ml_ok OK.out hlt)
          have CHH : Hid _ := CH
          have hmk := CH.hk
          have hek := CH.ek
          rw [CH.enc] at d0
          have WS := wo_step l k hlt
          rw [KI.out (i := k) (mK l k)] at WS
          have WSH : Hid _ := WS
          clear CH WS
          go_wp2_with fail
          refine (CHH.out.ck _).mono ?_
          rintro e w6 ⟨rfl, b6⟩
          have B6 : Hid _ := Below.and hb5.out b6
          have O6 : Hid _ := owns_below hown.out b6
          clear b6
          go_wp2_with fail
          refine (get_map_b w.heap.size F R _ _ (hsrt.out.below B6.out) RA.out (by omega)).mono ?_
          rintro e w7 ⟨rfl, b7⟩
          have B7 : Hid _ := Below.and B6.out b7
          have O7 : Hid (w7.ownsRow wA.heap.size 69 1 u6 A.length (A.map encC)) := owns_below O6.out b7
          clear b7 O6 B6
          simp only
          have hcs : ((getP R (mK l k)).2 = false ∧ ((getP R (mK l k)).2 && !(decide ((k : Int) ≥ (getP R (mK l k)).1))) = false) ∨ ((getP R (mK l k)).2 = true ∧ decide ((k : Int) ≥ (getP R (mK l k)).1) = true ∧ ((getP R (mK l k)).2 && !(decide ((k : Int) ≥ (getP R (mK l k)).1))) = false) ∨ ((getP R (mK l k)).2 = true ∧ decide ((k : Int) ≥ (getP R (mK l k)).1) = false ∧ ((getP R (mK l k)).2 && !(decide ((k : Int) ≥ (getP R (mK l k)).1))) = true) := by
            cases (getP R (mK l k)).2 <;> cases decide ((k : Int) ≥ (getP R (mK l k)).1) <;> simp
          generalize (getP R (mK l k)).1 = g1 at *
          generalize (getP R (mK l k)).2 = g2 at *
          have HR : Hid _ := room_of (n := A.length) (bytes := 16) (by omega) (by decide)
          have H1 : Hid (∀ u ∈ [Value.iface t x], u.oneCell' = true) := fun u hu => by simp at hu; subst hu; rfl
          have hbs : wA.heap.size ≤ w7.heap.size := B7.out.size
          rcases hcs with ⟨rfl, q⟩ | ⟨rfl, q1, q⟩ | ⟨rfl, q1, q⟩
          · have NX : Hid _ := WSH.out.trans (if_neg (by rw [q]; decide))
            clear q
            have OW := O7.out
            go_wp2_with (at_builtin; refine app_one w7 rfl _ _ 65 rfl wA.heap.size 69 i0 _ 1 16 Try.underlying65 hi hz0 hz1 hz2 rfl (by decide) u6 _ _ rfl OW [.iface t x] rfl rfl H1.out HR.out.1 HR.out.2 hbs ?_)
            intro v8 w8 ho8 _ hb8
            have FIN : Hid _ := And.intro ho8 (B7.out.trans hb8)
            clear OW hb8 ho8
            go_wp2
            go_roundw
            case rel => exact ⟨k + 1, A ++ [(mO l k, mK l k, mV l k)], by omega, by go_num, by simp; omega, by rw [NX.out] at hwo; show _ = _; rw [List.append_assoc]; exact hwo.out, by rw [List.length_append, List.map_append, List.map_cons, CHH.out.enc]; exact FIN.out.1, FIN.out.2⟩
            case measure => simp [intOf]; omega
          · have NX : Hid _ := WSH.out.trans (if_neg (by rw [q]; decide))
            clear q
            have OW := O7.out
            go_wp2_with (at_builtin; refine app_one w7 rfl _ _ 65 rfl wA.heap.size 69 i0 _ 1 16 Try.underlying65 hi hz0 hz1 hz2 rfl (by decide) u6 _ _ rfl OW [.iface t x] rfl rfl H1.out HR.out.1 HR.out.2 hbs ?_)
            intro v8 w8 ho8 _ hb8
            have FIN : Hid _ := And.intro ho8 (B7.out.trans hb8)
            clear OW hb8 ho8
            go_wp2
            go_roundw
            case rel => exact ⟨k + 1, A ++ [(mO l k, mK l k, mV l k)], by omega, by go_num, by simp; omega, by rw [NX.out] at hwo; show _ = _; rw [List.append_assoc]; exact hwo.out, by rw [List.length_append, List.map_append, List.map_cons, CHH.out.enc]; exact FIN.out.1, FIN.out.2⟩
            case measure => simp [intOf]; omega
          · have NX : Hid _ := WSH.out.trans (if_pos q)
            clear q
            go_wp2
            go_roundw
            case rel => exact ⟨k + 1, A, by omega, by go_num, by omega, by rw [NX.out] at hwo; exact hwo, O7, B7⟩
            case measure => simp [intOf]; omega
        · have hkk : k = l.length := by omega
          subst hkk
          have E : A = woF l := by have := hwo.out; rw [List.drop_length, woF, List.append_nil] at this; exact this
          subst E
          have FIN : Hid _ := And.intro (owns_mono hown.out hb.out.size) (Below.and hb.out hb5.out)
          clear hown
          go_wp2
          go_ret
          exact ⟨_, rfl, FIN.out.1, FIN.out.2⟩

end Go.Proofs.Ytlapcjbhhonagaa
