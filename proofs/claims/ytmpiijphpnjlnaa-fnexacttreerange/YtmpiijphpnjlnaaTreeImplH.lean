/-
  Contracts of the program's chapter 2: kidAt, KidOf.
-/
import Derived.Test.YtmpiijphpnjlnaaTreeImplG
namespace Go.Proofs.Ytmpiijphpnjlnaa
open Go.RowKit

/-- how many of the first n cuts are at most k -/
def cntK (l : List Int) (k : Int) : Nat → Nat
  | 0 => 0
  | n + 1 => cntK l k n + (if iAt l n ≤ k then 1 else 0)
theorem cntK_le (l : List Int) (k : Int) : ∀ n, cntK l k n ≤ n
  | 0 => Nat.le_refl _
  | n + 1 => by
    have := cntK_le l k n
    rw [cntK]
    split <;> omega
theorem cntK_yes {l : List Int} {k : Int} {n : Nat} (h : iAt l n ≤ k) : cntK l k (n + 1) = cntK l k n + 1 := by rw [cntK, if_pos h]
theorem cntK_no {l : List Int} {k : Int} {n : Nat} (h : ¬ iAt l n ≤ k) : cntK l k (n + 1) = cntK l k n := by rw [cntK, if_neg h, Nat.add_zero]

set_option maxHeartbeats 1000000 in
theorem kidAt_any (v : Value) (l : List Int) (x0 : Int) (w : World) (h : Row w v l.length (flatI l)) :
    Calls Try.prog 39 #[v, .int .i64 x0] w fun e w' => e = .returned (.int .i64 (cntK l x0 l.length : Nat)) ∧ Below w.heap.size w w' := by
  obtain ⟨a2, b2, off2, q2, rfl, hcap2, hmax2, ha2, cc⟩ := h.ints
  unfold maxLen at hmax2
  have CL : Hid (∀ n, cntK l x0 n ≤ n) := cntK_le l x0
  have C1 : Hid (∀ n, iAt l n ≤ x0 → cntK l x0 (n + 1) = cntK l x0 n + 1) := fun n => cntK_yes
  have C2 : Hid (∀ n, ¬ iAt l n ≤ x0 → cntK l x0 (n + 1) = cntK l x0 n) := fun n => cntK_no
  have C0 : Hid (cntK l x0 0 = 0) := rfl
  generalize cntK l x0 = f at *
  clear h
  generalize l.length = n2 at *
  go_enter Try.func39, Try.ntmps39
  go_wp2
  go_loopw [5, 10] (fun at' i wr => ∃ k z : Nat, k ≤ n2 ∧ i = .int .i64 k ∧ at' = .int .i64 z ∧ z ≤ k ∧ Hid (z = f k) ∧ wr = w)
    (fun _ i _ => n2 - (intOf i).toNat)
  case atStart => exact ⟨0, 0, Nat.zero_le _, rfl, rfl, Nat.le_refl _, C0.out.symm, rfl⟩
  case round =>
    obtain ⟨k, z, hkl, rfl, rfl, hz, ZE, rfl⟩ := hrel
    by_cases hlt : k < n2
    · have hal := ha2 (by omega)
      subst hal
      have d0 := cc k hlt
      clear cc ha2
      by_cases hq : iAt l k ≤ x0
      · have E : Hid (z + 1 = f (k + 1)) := by
          show _ = _
          rw [C1.out k hq, ZE.out]
        go_wp2
        go_roundw
        case rel => exact ⟨k + 1, z + 1, by omega, by go_num, by go_num, by omega, E, trivial⟩
        case measure => simp [intOf]; omega
      · have E : Hid (z = f (k + 1)) := by
          show _ = _
          rw [C2.out k (by omega), ZE.out]
        go_wp2
        go_roundw
        case rel => exact ⟨k + 1, z, by omega, by go_num, rfl, by omega, E, trivial⟩
        case measure => simp [intOf]; omega
    · have hkk : k = n2 := by omega
      have E : Hid (f n2 = z) := by
        show _ = _
        rw [ZE.out, hkk]
      clear cc ha2 hkk
      go_wp2
      go_ret
      exact ⟨ret_int (by rw [E.out]), Below.refl _ _⟩

theorem cntK_pref {l : List Int} {k : Int} (h : ∀ i j, i < j → j < l.length → iAt l i < iAt l j) : cntK l k l.length = prefK l k := by
  have hp := prefK_le l k
  have key : ∀ n, n ≤ l.length → cntK l k n = min n (prefK l k) := by
    have hyes : ∀ i, i < prefK l k → iAt l i ≤ k := by
      clear h hp
      intro i hi
      induction l generalizing i with
      | nil => simp [prefK] at hi
      | cons a l ih =>
        by_cases ha : a ≤ k
        · cases i with
          | zero => simpa [iAt] using ha
          | succ i =>
            have : i < prefK l k := by
              simp only [prefK] at hi ⊢
              rw [List.takeWhile_cons_of_pos (by simpa using ha), List.length_cons] at hi
              omega
            simpa [iAt] using ih i this
        · simp [prefK, ha] at hi
    have hno : prefK l k < l.length → ¬ iAt l (prefK l k) ≤ k := by
      clear h hp hyes
      induction l with
      | nil => intro hl; simp at hl
      | cons a l ih =>
        intro hl
        by_cases ha : a ≤ k
        · have e : prefK (a :: l) k = prefK l k + 1 := by
            simp only [prefK]
            rw [List.takeWhile_cons_of_pos (by simpa using ha), List.length_cons]
          rw [e] at hl ⊢
          simpa [iAt] using ih (by simpa using hl)
        · have e : prefK (a :: l) k = 0 := by simp [prefK, ha]
          rw [e]
          simpa [iAt] using ha
    intro n
    induction n with
    | zero => intro _; simp [cntK]
    | succ n ih =>
      intro hn
      by_cases hc : n < prefK l k
      · rw [cntK_yes (hyes n hc), ih (by omega)]; omega
      · have hno2 : ¬ iAt l n ≤ k := by
          have h0 := hno (by omega)
          by_cases he : n = prefK l k
          · rw [he]; exact h0
          · have := h (prefK l k) n (by omega) (by omega)
            omega
        rw [cntK_no hno2, ih (by omega)]; omega
  rw [key _ (Nat.le_refl _)]
  omega

theorem cuts_asc {T : Tr} {lo hi : Int} (h : cutsOkB T lo hi = true) : ∀ i j, i < j → j < T.cuts.length → iAt T.cuts i < iAt T.cuts j := by
  intro i j hij hj
  induction j with
  | zero => omega
  | succ j ih =>
    have h1 := allB_at h hj
    rw [cutAt_succ] at h1
    have h2 := inB_iff.1 h1
    by_cases he : i = j
    · subst he; omega
    · have := ih (by omega) (by omega); omega
theorem ok_cuts {T : Tr} (h : okT T = true) (hl : T.leaf = false) : cutsOkB T 0 1000 = true := by
  cases hf : forkOkB T 0 1000
  · rw [okT, depthT, depthF_no hl hf] at h
    cases h
  · rw [forkOkB] at hf
    simp only [Bool.and_eq_true] at hf
    exact hf.2.2

set_option maxHeartbeats 1000000 in
theorem implKidOf_any (n : Nat) (x : TV) (T : Tr) (x0 : Int) (w : World) (ht : TreeAt n w x T) :
    Calls Try.prog 10 #[x.val, .int .i64 x0] w fun e w' => e = .returned (.int .i64 (kidOfT T x0)) ∧ Below w.heap.size w w' := by
  cases n with
  | zero => exact ht.elim
  | succ n =>
  have TT : Hid (TreeAt (n + 1) w x T) := ht
  have hlx : x.lf = T.leaf := ht.parts.1
  have RC : Hid (Row w x.c T.cuts.length (flatI T.cuts)) := ht.parts.2.2.1
  clear ht
  obtain ⟨lf, p, c, k, b⟩ := x
  simp only at hlx RC
  subst hlx
  have B0 : Hid _ := bel_box w #[.bool T.leaf, p, c, k, b]
  have S0 : Hid (OneAt _ w.heap.size _) := OneAt.start w #[.bool T.leaf, p, c, k, b]
  have HC := implTreeOk_any (n + 1) ⟨T.leaf, p, c, k, b⟩ T _ (TT.out.below B0.out)
  have HC' : Hid _ := HC
  clear HC
  have HD : Hid (∀ w1, Below w.heap.size w w1 → Calls Try.prog 39 #[c, .int .i64 x0] w1 fun e w' => e = .returned (.int .i64 (cntK T.cuts x0 T.cuts.length : Nat)) ∧ Below w1.heap.size w1 w') :=
    fun w1 hb => kidAt_any c T.cuts x0 w1 (RC.out.below hb)
  show Calls Try.prog 10 #[.agg #[.bool T.leaf, p, c, k, b], .int .i64 x0] w _
  have K1 : Hid (T.leaf = true ∨ okT T = false → kidOfT T x0 = -1) := fun h => if_pos h
  have K2 : Hid (T.leaf = false → okT T = true → kidOfT T x0 = (cntK T.cuts x0 T.cuts.length : Nat)) := fun h1 h2 => by
    rw [kidOfT, if_neg (by rw [h1, h2]; simp), cntK_pref (cuts_asc (ok_cuts h2 h1))]
  generalize kidOfT T x0 = R at *
  generalize cntK T.cuts x0 T.cuts.length = Q at *
  cases hlf : T.leaf
  · rw [hlf] at B0 S0 HC'
    cases hok : okT T
    · have E := K1.out (Or.inr hok)
      subst E
      rw [hok] at HC'
      clear K1 K2 TT RC
      go_enter Try.func10, Try.ntmps10
      go_wp2_with fail
      refine Calls.mono HC'.out ?_
      rintro e w1 ⟨rfl, hb1⟩
      have B1 : Hid (Below w.heap.size w w1) := Below.and B0.out hb1
      clear hb1 B0
      go_wp2
      go_ret
      exact ⟨rfl, B1.out⟩
    · have E := K2.out hlf hok
      subst E
      rw [hok] at HC'
      clear K1 K2 TT RC
      go_enter Try.func10, Try.ntmps10
      go_wp2_with fail
      refine Calls.mono HC'.out ?_
      rintro e w1 ⟨rfl, hb1⟩
      have B1 : Hid (Below w.heap.size w w1) := Below.and B0.out hb1
      have k0 := (S0.out.step hb1).cells
      clear hb1 B0
      go_wp2_with fail
      refine Calls.mono (HD.out w1 B1.out) ?_
      rintro e w2 ⟨rfl, hb2⟩
      have B2 : Hid (Below w.heap.size w w2) := Below.and B1.out hb2
      clear hb2 B1
      go_wp2
      go_ret
      exact ⟨rfl, B2.out⟩
  · have E := K1.out (Or.inl hlf)
    subst E
    rw [hlf] at B0
    clear K1 K2 TT HC' HD S0 RC
    go_enter Try.func10, Try.ntmps10
    go_wp2
    go_ret
    exact ⟨rfl, B0.out⟩

end Go.Proofs.Ytmpiijphpnjlnaa
