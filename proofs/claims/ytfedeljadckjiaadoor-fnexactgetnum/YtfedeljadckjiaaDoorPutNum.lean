/-
  PutNum, the model's and the program's: the bytes of the number form, a row of its own.
-/
import Derived.Test.YtfedeljadckjiaaDoorByteM
namespace Go.Proofs.YtfedeljadckjiaaDoor
open Go.RowKit

set_option maxHeartbeats 400000 in
theorem l1InN_any (x lo hi : Int) (w : World) :
    Calls Tryd.prog 51 #[.int .i64 x, .int .i64 lo, .int .i64 hi] w fun e w' => e = .returned (.bool (inB x lo hi)) ∧ w' = w := by
  by_cases h1 : lo ≤ x
  · by_cases h2 : x ≤ hi
    · have E : Hid (inB x lo hi = true) := inB_true h1 h2
      go_enter Tryd.func51, Tryd.ntmps51
      go_wp2
      go_ret
      exact ⟨ret_bool E.out.symm, rfl⟩
    · have E : Hid (inB x lo hi = false) := inB_false2 h2
      go_enter Tryd.func51, Tryd.ntmps51
      go_wp2
      go_ret
      exact ⟨ret_bool E.out.symm, rfl⟩
  · have E : Hid (inB x lo hi = false) := inB_false1 h1
    go_enter Tryd.func51, Tryd.ntmps51
    go_wp2
    go_ret
    exact ⟨ret_bool E.out.symm, rfl⟩

set_option maxHeartbeats 400000 in
theorem codeOf_any (x : Int) (h1 : -2000000000 ≤ x) (h2 : x ≤ 2000000000) (w : World) :
    Calls Tryd.prog 52 #[.int .i64 x] w fun e w' => e = .returned (.int .i64 (codeN x)) ∧ w = w' := by
  by_cases h : x < 0
  · have E : Hid (codeN x = -2 * x - 1) := by show _ = _; simp [codeN, h]
    go_enter Tryd.func52, Tryd.ntmps52
    go_wp2
    go_ret
    exact ⟨ret_int E.out.symm, rfl⟩
  · have E : Hid (codeN x = 2 * x) := by show _ = _; simp [codeN, h]
    go_enter Tryd.func52, Tryd.ntmps52
    go_wp2
    go_ret
    exact ⟨ret_int E.out.symm, rfl⟩

/-- a row of bytes of one's own -/
def OwnB (base : Nat) (w : World) (v : Value) (l : List Int) : Prop := w.ownsRow base 5 1 v l.length (flatB l)

theorem room5 {n : Nat} (h : n ≤ 5) : n + 1 ≤ maxLen ∧ (n + 1) * 1 ≤ 140737488355328 := ⟨by unfold maxLen; omega, by omega⟩

set_option maxRecDepth 100000 in
set_option maxHeartbeats 2000000 in
theorem specPutNum_any (x : Int) (w : World) :
    Calls Tryd.prog 20 #[.int .i64 x] w fun e w' => ∃ v, e = .returned v ∧ OwnB w.heap.size w' v (putN x) ∧ Below w.heap.size w w' := by
  obtain ⟨i0, hi, hz0, hz1, hz2⟩ := info_parts Tryd.infoByte
  have e0 : OwnB w.heap.size (w.alloc (.cells #[] 5)) (.slice (some ⟨w.heap.size, 0, none⟩) 0 0) [] := empty_own w w.heap.size 5 1 (Nat.le_refl _)
  have b0 : Below w.heap.size w (w.alloc (.cells #[] 5)) := (Below.refl _ _).alloc (Nat.le_refl _) _
  have E0 : Hid _ := And.intro e0 b0
  clear e0 b0
  by_cases h : -2000000000 ≤ x ∧ x ≤ 2000000000
  · have PN : Hid (putN x = sevens 4 (codeN x)) := putN_in h.1 h.2
    have IB : inB x (-2000000000) 2000000000 = true := inB_true h.1 h.2
    obtain ⟨h1, h2⟩ := h
    by_cases hx : x < 0
    · have EC : Hid (codeN x = -2 * x - 1) := by show _ = _; simp [codeN, hx]
      go_enter Tryd.func20, Tryd.ntmps20
      go_wp2_with (go_at_call 51; refine (l1InN_any _ _ _ _).mono ?_; rintro e w1 ⟨rfl, rfl⟩)
      go_loopw [3, 4] (fun o n wr => ∃ (k : Nat) (m : Int) (done : List Int), n = .int .i64 m ∧ Formed x done k m ∧ OwnB w.heap.size wr o done ∧ Below w.heap.size w wr) (fun _ n _ => (intOf n).toNat)
      case atStart => exact ⟨4, codeN x, [], by rw [EC.out], Formed.start h1 h2, E0.out.1, E0.out.2⟩
      case round =>
        obtain ⟨k, m, done, rfl, hF, hown, hb⟩ := hrel
        have m0 := hF.low
        have m1 := hF.high
        have hd : done.length ≤ 5 := by have := hF.room; omega
        have FO : Hid (Formed x done k m) := hF
        obtain ⟨av, cv, rfl, _, _⟩ := owns_shape hown
        have OW : Hid (OwnB w.heap.size wr (.slice av done.length cv) done) := hown
        have BS := hb.size
        have BB : Hid (Below w.heap.size w wr) := hb
        clear hF hown hb
        by_cases hm : 127 < m
        · have hw8 : IntKind.u8.wrap (m % 128 + 128) = m % 128 + 128 := by rw [IntKind.wrap_u8]; omega
          go_wp2_with (at_builtin; refine app_one wr rfl _ _ 22 rfl w.heap.size 5 i0 _ 1 1 Tryd.underlying22 hi hz0 hz1 hz2 rfl (by decide) (.slice av done.length cv) done.length (flatB done) rfl OW.out [.int .u8 (m % 128 + 128)] rfl rfl (one_one _) (room5 hd).1 (room5 hd).2 BS ?_)
          intro v' w2 ho2 _ hb2
          obtain ⟨k', rfl, hF'⟩ := FO.out.step hm
          have O2 : OwnB w.heap.size w2 v' (done ++ [m % 128 + 128]) := by
            unfold OwnB; rw [flatB_snoc] at ho2; simpa using ho2
          have P : Hid _ := And.intro hF' (And.intro O2 (BB.out.trans hb2))
          clear ho2 hb2 hF' O2 FO OW BB
          go_wp2
          go_roundw
          case rel => exact ⟨k', m / 128, _, rfl, P.out.1, P.out.2.1, P.out.2.2⟩
          case measure => simp [intOf]; omega
        · have hw8 : IntKind.u8.wrap m = m := by rw [IntKind.wrap_u8]; omega
          go_wp2_with (at_builtin; refine app_one wr rfl _ _ 22 rfl w.heap.size 5 i0 _ 1 1 Tryd.underlying22 hi hz0 hz1 hz2 rfl (by decide) (.slice av done.length cv) done.length (flatB done) rfl OW.out [.int .u8 m] rfl rfl (one_one _) (room5 hd).1 (room5 hd).2 BS ?_)
          intro v' w2 ho2 _ hb2
          have hs := FO.out.stop (by omega)
          have O2 : OwnB w.heap.size w2 v' (done ++ [m]) := by
            unfold OwnB; rw [flatB_snoc] at ho2; simpa using ho2
          rw [hs, ← PN.out] at O2
          have P : Hid _ := And.intro O2 (BB.out.trans hb2)
          clear ho2 hb2 O2 FO OW BB hs
          go_wp2
          go_ret
          exact ⟨_, rfl, P.out.1, P.out.2⟩
    · have EC : Hid (codeN x = 2 * x) := by show _ = _; simp [codeN, hx]
      go_enter Tryd.func20, Tryd.ntmps20
      go_wp2_with (go_at_call 51; refine (l1InN_any _ _ _ _).mono ?_; rintro e w1 ⟨rfl, rfl⟩)
      go_loopw [3, 4] (fun o n wr => ∃ (k : Nat) (m : Int) (done : List Int), n = .int .i64 m ∧ Formed x done k m ∧ OwnB w.heap.size wr o done ∧ Below w.heap.size w wr) (fun _ n _ => (intOf n).toNat)
      case atStart => exact ⟨4, codeN x, [], by rw [EC.out], Formed.start h1 h2, E0.out.1, E0.out.2⟩
      case round =>
        obtain ⟨k, m, done, rfl, hF, hown, hb⟩ := hrel
        have m0 := hF.low
        have m1 := hF.high
        have hd : done.length ≤ 5 := by have := hF.room; omega
        have FO : Hid (Formed x done k m) := hF
        obtain ⟨av, cv, rfl, _, _⟩ := owns_shape hown
        have OW : Hid (OwnB w.heap.size wr (.slice av done.length cv) done) := hown
        have BS := hb.size
        have BB : Hid (Below w.heap.size w wr) := hb
        clear hF hown hb
        by_cases hm : 127 < m
        · have hw8 : IntKind.u8.wrap (m % 128 + 128) = m % 128 + 128 := by rw [IntKind.wrap_u8]; omega
          go_wp2_with (at_builtin; refine app_one wr rfl _ _ 22 rfl w.heap.size 5 i0 _ 1 1 Tryd.underlying22 hi hz0 hz1 hz2 rfl (by decide) (.slice av done.length cv) done.length (flatB done) rfl OW.out [.int .u8 (m % 128 + 128)] rfl rfl (one_one _) (room5 hd).1 (room5 hd).2 BS ?_)
          intro v' w2 ho2 _ hb2
          obtain ⟨k', rfl, hF'⟩ := FO.out.step hm
          have O2 : OwnB w.heap.size w2 v' (done ++ [m % 128 + 128]) := by
            unfold OwnB; rw [flatB_snoc] at ho2; simpa using ho2
          have P : Hid _ := And.intro hF' (And.intro O2 (BB.out.trans hb2))
          clear ho2 hb2 hF' O2 FO OW BB
          go_wp2
          go_roundw
          case rel => exact ⟨k', m / 128, _, rfl, P.out.1, P.out.2.1, P.out.2.2⟩
          case measure => simp [intOf]; omega
        · have hw8 : IntKind.u8.wrap m = m := by rw [IntKind.wrap_u8]; omega
          go_wp2_with (at_builtin; refine app_one wr rfl _ _ 22 rfl w.heap.size 5 i0 _ 1 1 Tryd.underlying22 hi hz0 hz1 hz2 rfl (by decide) (.slice av done.length cv) done.length (flatB done) rfl OW.out [.int .u8 m] rfl rfl (one_one _) (room5 hd).1 (room5 hd).2 BS ?_)
          intro v' w2 ho2 _ hb2
          have hs := FO.out.stop (by omega)
          have O2 : OwnB w.heap.size w2 v' (done ++ [m]) := by
            unfold OwnB; rw [flatB_snoc] at ho2; simpa using ho2
          rw [hs, ← PN.out] at O2
          have P : Hid _ := And.intro O2 (BB.out.trans hb2)
          clear ho2 hb2 O2 FO OW BB hs
          go_wp2
          go_ret
          exact ⟨_, rfl, P.out.1, P.out.2⟩
  · have PN : Hid (putN x = []) := putN_out h
    have IB : inB x (-2000000000) 2000000000 = false := by simp [inB]; omega
    clear h
    go_enter Tryd.func20, Tryd.ntmps20
    go_wp2_with (go_at_call 51; refine (l1InN_any _ _ _ _).mono ?_; rintro e w1 ⟨rfl, rfl⟩)
    go_ret
    rw [PN.out]
    exact ⟨_, rfl, E0.out.1, E0.out.2⟩

set_option maxRecDepth 100000 in
set_option maxHeartbeats 2000000 in
theorem implPutNum_any (x : Int) (w : World) :
    Calls Tryd.prog 19 #[.int .i64 x] w fun e w' => ∃ v, e = .returned v ∧ OwnB w.heap.size w' v (putN x) ∧ Below w.heap.size w w' := by
  obtain ⟨i0, hi, hz0, hz1, hz2⟩ := info_parts Tryd.infoByte
  have e0 : OwnB w.heap.size w (.slice none 0 0) [] := ⟨rfl, .inl ⟨rfl, rfl⟩⟩
  have E0 : Hid _ := And.intro e0 (Below.refl w.heap.size w)
  clear e0
  by_cases h : -2000000000 ≤ x ∧ x ≤ 2000000000
  · have PN : Hid (putN x = sevens 4 (codeN x)) := putN_in h.1 h.2
    obtain ⟨h1, h2⟩ := h
    go_enter Tryd.func19, Tryd.ntmps19
    go_wp2_with (go_at_call 52; refine (codeOf_any _ h1 h2 _).mono ?_; rintro e w1 ⟨rfl, rfl⟩)
    go_loopw [3, 4] (fun o n wr => ∃ (k : Nat) (m : Int) (done : List Int), n = .int .i64 m ∧ Formed x done k m ∧ OwnB w.heap.size wr o done ∧ Below w.heap.size w wr) (fun _ n _ => (intOf n).toNat)
    case atStart => exact ⟨4, codeN x, [], rfl, Formed.start h1 h2, E0.out.1, E0.out.2⟩
    case round =>
      obtain ⟨k, m, done, rfl, hF, hown, hb⟩ := hrel
      have m0 := hF.low
      have m1 := hF.high
      have hd : done.length ≤ 5 := by have := hF.room; omega
      have FO : Hid (Formed x done k m) := hF
      obtain ⟨av, cv, rfl, _, _⟩ := owns_shape hown
      have OW : Hid (OwnB w.heap.size wr (.slice av done.length cv) done) := hown
      have BS := hb.size
      have BB : Hid (Below w.heap.size w wr) := hb
      clear hF hown hb
      by_cases hm : 127 < m
      · have hw8 : IntKind.u8.wrap (m % 128 + 128) = m % 128 + 128 := by rw [IntKind.wrap_u8]; omega
        go_wp2_with (at_builtin; refine app_one wr rfl _ _ 22 rfl w.heap.size 5 i0 _ 1 1 Tryd.underlying22 hi hz0 hz1 hz2 rfl (by decide) (.slice av done.length cv) done.length (flatB done) rfl OW.out [.int .u8 (m % 128 + 128)] rfl rfl (one_one _) (room5 hd).1 (room5 hd).2 BS ?_)
        intro v' w2 ho2 _ hb2
        obtain ⟨k', rfl, hF'⟩ := FO.out.step hm
        have O2 : OwnB w.heap.size w2 v' (done ++ [m % 128 + 128]) := by
          unfold OwnB; rw [flatB_snoc] at ho2; simpa using ho2
        have P : Hid _ := And.intro hF' (And.intro O2 (BB.out.trans hb2))
        clear ho2 hb2 hF' O2 FO OW BB
        go_wp2
        go_roundw
        case rel => exact ⟨k', m / 128, _, rfl, P.out.1, P.out.2.1, P.out.2.2⟩
        case measure => simp [intOf]; omega
      · have hw8 : IntKind.u8.wrap m = m := by rw [IntKind.wrap_u8]; omega
        go_wp2_with (at_builtin; refine app_one wr rfl _ _ 22 rfl w.heap.size 5 i0 _ 1 1 Tryd.underlying22 hi hz0 hz1 hz2 rfl (by decide) (.slice av done.length cv) done.length (flatB done) rfl OW.out [.int .u8 m] rfl rfl (one_one _) (room5 hd).1 (room5 hd).2 BS ?_)
        intro v' w2 ho2 _ hb2
        have hs := FO.out.stop (by omega)
        have O2 : OwnB w.heap.size w2 v' (done ++ [m]) := by
          unfold OwnB; rw [flatB_snoc] at ho2; simpa using ho2
        rw [hs, ← PN.out] at O2
        have P : Hid _ := And.intro O2 (BB.out.trans hb2)
        clear ho2 hb2 O2 FO OW BB hs
        go_wp2
        go_ret
        exact ⟨_, rfl, P.out.1, P.out.2⟩
  · have PN : Hid (putN x = []) := putN_out h
    by_cases h1 : x < -2000000000
    · clear h
      go_enter Tryd.func19, Tryd.ntmps19
      go_wp2
      go_ret
      rw [PN.out]
      exact ⟨_, rfl, E0.out.1, E0.out.2⟩
    · have h2 : 2000000000 < x := by omega
      clear h
      go_enter Tryd.func19, Tryd.ntmps19
      go_wp2
      go_ret
      rw [PN.out]
      exact ⟨_, rfl, E0.out.1, E0.out.2⟩

end Go.Proofs.YtfedeljadckjiaaDoor
