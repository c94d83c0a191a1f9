/-
  Contracts of the model's chapter 2: TreeCount, l2Kid, KidOf; of the program's countAll, kidAt.
-/
import Derived.Test.YtmpiijphpnjlnaaTreeSpecB
namespace Go.Proofs.Ytmpiijphpnjlnaa
open Go.RowKit

set_option maxHeartbeats 400000 in
theorem specTreeCount_any (n : Nat) (x : TV) (T : Tr) (w : World) (ht : TreeAt n w x T) (hsz : sizeT n T ≤ 1099511627776) :
    Calls Try.prog 13 #[x.val] w fun e w' => e = .returned (.tuple #[.int .i64 (if okT T = true then (pairsF n T : Nat) else 0), .int .i64 (if okT T = true then (msgsF n T : Nat) else 0)]) ∧ Below w.heap.size w w' := by
  have TT : Hid (TreeAt n w x T) := ht
  clear ht
  obtain ⟨lf, p, c, k, b⟩ := x
  have B0 : Hid _ := bel_box w #[.bool lf, p, c, k, b]
  have S0 : Hid (OneAt _ w.heap.size _) := OneAt.start w #[.bool lf, p, c, k, b]
  have HC := specTreeOk_any n ⟨lf, p, c, k, b⟩ T _ (TT.out.below B0.out) hsz
  have HC' : Hid _ := HC
  clear HC
  have HD : Hid (∀ w1, Below w.heap.size w w1 → Calls Try.prog 43 #[.agg #[.bool lf, p, c, k, b]] w1 fun e w' => e = .returned (.tuple #[.int .i64 (pairsF n T : Nat), .int .i64 (msgsF n T : Nat)]) ∧ Below w1.heap.size w1 w') :=
    fun w1 hb => l2Count_any n ⟨lf, p, c, k, b⟩ T w1 (TT.out.below hb) hsz
  show Calls Try.prog 13 #[.agg #[.bool lf, p, c, k, b]] w _
  generalize pairsF n T = P at *
  generalize msgsF n T = Q at *
  cases hok : okT T
  · rw [hok] at HC'
    go_enter Try.func13, Try.ntmps13
    go_wp2_with fail
    refine Calls.mono HC'.out ?_
    rintro e w1 ⟨rfl, hb1⟩
    have B1 : Hid (Below w.heap.size w w1) := Below.and B0.out hb1
    clear hb1 B0
    go_wp2
    go_ret2
    exact ⟨rfl, B1.out⟩
  · rw [hok] at HC'
    go_enter Try.func13, Try.ntmps13
    go_wp2_with fail
    refine Calls.mono HC'.out ?_
    rintro e w1 ⟨rfl, hb1⟩
    have B1 : Hid (Below w.heap.size w w1) := Below.and B0.out hb1
    have k0 := (S0.out.step hb1).cells
    clear hb1 B0
    go_wp2_with fail
    refine Calls.mono (HD.out w1 B1.out) ?_
    rintro e w2 ⟨rfl, hb2⟩
    have B2 : Hid (Below w.heap.size w w2) := Below.and B1.out hb2
    clear hb2 B1
    go_wp2
    go_ret2
    exact ⟨rfl, B2.out⟩

/-- how many of the first cuts are at most k, up to the first that is not -/
def prefK (l : List Int) (k : Int) : Nat := (l.takeWhile fun c => decide (c ≤ k)).length
theorem prefK_at {l : List Int} {k : Int} {n : Nat} (hn : n ≤ l.length) (h : ∀ i, i < n → iAt l i ≤ k) (h2 : n < l.length → ¬ iAt l n ≤ k) : prefK l k = n := by
  induction l generalizing n with
  | nil => simp at hn; subst hn; rfl
  | cons a l ih =>
    cases n with
    | zero =>
      have := h2 (by simp)
      simp only [iAt, List.getD_cons_zero] at this
      simp [prefK, this]
    | succ n =>
      have ha := h 0 (by omega)
      simp only [iAt, List.getD_cons_zero] at ha
      have := ih (n := n) (by simpa using hn) (fun i hi => by simpa [iAt] using h (i + 1) (by omega)) (fun hl => by simpa [iAt] using h2 (by simpa using hl))
      simp only [prefK] at this ⊢
      rw [List.takeWhile_cons_of_pos (by simpa using ha), List.length_cons, this]
theorem prefK_le (l : List Int) (k : Int) : prefK l k ≤ l.length := by
  unfold prefK
  exact (List.takeWhile_sublist _).length_le

set_option maxHeartbeats 1000000 in
theorem l2Kid_any (n : Nat) (x : TV) (T : Tr) (x0 : Int) (w : World) (ht : TreeAt n w x T) :
    Calls Try.prog 44 #[x.val, .int .i64 x0] w fun e w' => e = .returned (.int .i64 (prefK T.cuts x0 : Nat)) ∧ Below w.heap.size w w' := by
  cases n with
  | zero => exact ht.elim
  | succ n =>
  obtain ⟨lf, p, c, k, b⟩ := x
  obtain ⟨-, -, hc, -, -⟩ := ht.parts
  simp only at hc
  obtain ⟨a2, b2, off2, q2, rfl, hcap2, hmax2, ha2, cc⟩ := hc.ints
  unfold maxLen at hmax2
  clear ht hc
  have PK : Hid (∀ n, n ≤ T.cuts.length → (∀ i, i < n → iAt T.cuts i ≤ x0) → (n < T.cuts.length → ¬ iAt T.cuts n ≤ x0) → prefK T.cuts x0 = n) := fun n => prefK_at
  generalize prefK T.cuts x0 = R at *
  generalize T.cuts.length = n2 at *
  show Calls Try.prog 44 #[.agg #[.bool lf, p, .slice a2 n2 q2, k, b], .int .i64 x0] w _
  have B0 : Hid _ := bel_box w #[.bool lf, p, .slice a2 n2 q2, k, b]
  have S0 : Hid (OneAt _ w.heap.size _) := OneAt.start w #[.bool lf, p, .slice a2 n2 q2, k, b]
  go_enter Try.func44, Try.ntmps44
  go_wp2
  go_loopw [5] (fun i wr => ∃ k' : Nat, k' ≤ n2 ∧ i = .int .i64 k' ∧ wr = w.alloc (.cells #[.bool lf, p, .slice a2 n2 q2, k, b] 29) ∧ Hid (∀ i, i < k' → iAt T.cuts i ≤ x0))
    (fun i _ => n2 - (intOf i).toNat)
  case atStart => exact ⟨0, Nat.zero_le _, rfl, rfl, fun i hi => absurd hi (Nat.not_lt_zero _)⟩
  case round =>
    obtain ⟨k', hkl, rfl, hwr, ALL⟩ := hrel
    have k0 := S0.out.cells
    rw [← hwr] at k0
    by_cases hlt : k' < n2
    · have hal := ha2 (by omega)
      subst hal
      have d0 := (B0.out.cell (by exact cell_lt (cc k' hlt))).trans (cc k' hlt)
      rw [← hwr] at d0
      have BW : Hid (Below w.heap.size w wr) := by rw [hwr]; exact B0.out
      have WR : Hid (wr = w.alloc (.cells #[.bool lf, p, .slice (some ⟨b2, off2, none⟩) n2 q2, k, b] 29)) := hwr
      clear cc ha2 hwr S0 B0
      by_cases hq : iAt T.cuts k' ≤ x0
      · have YS : Hid (iAt T.cuts k' ≤ x0) := hq
        go_wp2
        go_roundw
        case rel => exact ⟨k' + 1, by omega, by go_num, WR.out, fun i hi => if h : i < k' then ALL.out i h else by rw [show i = k' by omega]; exact YS.out⟩
        case measure => simp [intOf]; omega
      · have E : Hid (R = k') := PK.out k' (by omega) ALL.out (fun _ => by omega)
        go_wp2
        go_ret
        exact ⟨ret_int (by rw [E.out]), BW.out⟩
    · have E : Hid (R = k') := PK.out k' (by omega) ALL.out (fun h => absurd h hlt)
      have BW : Hid (Below w.heap.size w wr) := by rw [hwr]; exact B0.out
      clear cc ha2 hwr S0 B0
      go_wp2
      go_ret
      exact ⟨ret_int (by rw [E.out]), BW.out⟩

/-- KidOf's answer -/
def kidOfT (T : Tr) (k : Int) : Int := if T.leaf = true ∨ okT T = false then -1 else (prefK T.cuts k : Nat)

set_option maxHeartbeats 1000000 in
theorem specKidOf_any (n : Nat) (x : TV) (T : Tr) (x0 : Int) (w : World) (ht : TreeAt n w x T) (hsz : sizeT n T ≤ 1099511627776) :
    Calls Try.prog 14 #[x.val, .int .i64 x0] w fun e w' => e = .returned (.int .i64 (kidOfT T x0)) ∧ Below w.heap.size w w' := by
  have TT : Hid (TreeAt n w x T) := ht
  have hlx : x.lf = T.leaf := by
    cases n with
    | zero => exact ht.elim
    | succ n => exact ht.parts.1
  clear ht
  obtain ⟨lf, p, c, k, b⟩ := x
  simp only at hlx
  subst hlx
  have B0 : Hid _ := bel_box w #[.bool T.leaf, p, c, k, b]
  have S0 : Hid (OneAt _ w.heap.size _) := OneAt.start w #[.bool T.leaf, p, c, k, b]
  have HC := specTreeOk_any n ⟨T.leaf, p, c, k, b⟩ T _ (TT.out.below B0.out) hsz
  have HC' : Hid _ := HC
  clear HC
  have HD : Hid (∀ w1, Below w.heap.size w w1 → Calls Try.prog 44 #[.agg #[.bool T.leaf, p, c, k, b], .int .i64 x0] w1 fun e w' => e = .returned (.int .i64 (prefK T.cuts x0 : Nat)) ∧ Below w1.heap.size w1 w') :=
    fun w1 hb => l2Kid_any n ⟨T.leaf, p, c, k, b⟩ T x0 w1 (TT.out.below hb)
  show Calls Try.prog 14 #[.agg #[.bool T.leaf, p, c, k, b], .int .i64 x0] w _
  have K1 : Hid (T.leaf = true ∨ okT T = false → kidOfT T x0 = -1) := fun h => if_pos h
  have K2 : Hid (¬ (T.leaf = true ∨ okT T = false) → kidOfT T x0 = (prefK T.cuts x0 : Nat)) := fun h => if_neg h
  generalize kidOfT T x0 = R at *
  generalize prefK T.cuts x0 = Q at *
  cases hlf : T.leaf
  · rw [hlf] at B0 S0 HC' HD
    cases hok : okT T
    · have E := K1.out (Or.inr hok)
      subst E
      rw [hok] at HC'
      clear K1 K2 TT
      go_enter Try.func14, Try.ntmps14
      go_wp2_with fail
      refine Calls.mono HC'.out ?_
      rintro e w1 ⟨rfl, hb1⟩
      have B1 : Hid (Below w.heap.size w w1) := Below.and B0.out hb1
      clear hb1 B0
      go_wp2
      go_ret
      exact ⟨rfl, B1.out⟩
    · have E := K2.out (by rw [hlf, hok]; simp)
      subst E
      rw [hok] at HC'
      clear K1 K2 TT
      go_enter Try.func14, Try.ntmps14
      go_wp2_with fail
      refine Calls.mono HC'.out ?_
      rintro e w1 ⟨rfl, hb1⟩
      have B1 : Hid (Below w.heap.size w w1) := Below.and B0.out hb1
      have k0 := (S0.out.step hb1).cells
      clear hb1 B0
      go_wp2_with fail
      refine Calls.mono (HD.out w1 B1.out) ?_
      rintro e w2 ⟨rfl, hb2⟩
      have B2 : Hid (Below w.heap.size w w2) := Below.and B1.out hb2
      clear hb2 B1
      go_wp2
      go_ret
      exact ⟨rfl, B2.out⟩
  · have E := K1.out (Or.inl hlf)
    subst E
    rw [hlf] at B0
    clear K1 K2 TT HC' HD S0
    go_enter Try.func14, Try.ntmps14
    go_wp2
    go_ret
    exact ⟨rfl, B0.out⟩

end Go.Proofs.Ytmpiijphpnjlnaa
