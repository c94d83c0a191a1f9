/-
  Contracts of the program's chapter 2: bufOk.
-/
import Derived.Test.YtmoaccohnmkleaaTreeImplA
namespace Go.Proofs.Ytmoaccohnmkleaa
open Go.RowKit

def bufOk2B (T : Tr) (lo hi : Int) : Bool := decide (T.buf.length ≤ 6) && bufOkB T lo hi
theorem bufOk2_no1 {T : Tr} {lo hi : Int} (h : ¬ T.buf.length ≤ 6) : bufOk2B T lo hi = false := by rw [bufOk2B, decide_eq_false h]; rfl
theorem bufOk2_no2 {T : Tr} {lo hi : Int} {i : Nat} (hi' : i < T.buf.length) (h : msgAt T lo hi i = false) : bufOk2B T lo hi = false := by rw [bufOk2B, bufOkB, allB_false hi' h]; simp
theorem bufOk2_yes {T : Tr} {lo hi : Int} (h1 : T.buf.length ≤ 6) (h3 : ∀ i, i < T.buf.length → msgAt T lo hi i = true) : bufOk2B T lo hi = true := by
  rw [bufOk2B, decide_eq_true h1, bufOkB, allB_true h3]; rfl

set_option maxHeartbeats 2000000 in
theorem bufOk_any (n : Nat) (x : TV) (T : Tr) (kd lo hi ab : Int) (w : World) (ht : TreeAt n w x T) :
    Calls Try.prog 52 #[placedV kd lo hi ab x] w fun e w' => e = .returned (.bool (bufOk2B T lo hi)) ∧ Below w.heap.size w w' := by
  cases n with
  | zero => exact ht.elim
  | succ n =>
  obtain ⟨lf, p, c, k, b⟩ := x
  obtain ⟨-, -, -, hb, -⟩ := ht.parts
  simp only at hb
  obtain ⟨a4, b4, off4, q4, rfl, hcap4, hmax4, ha4, go, gk, gv⟩ := hb.msgs
  unfold maxLen at hmax4
  clear ht hb
  have N1 : Hid (¬ T.buf.length ≤ 6 → bufOk2B T lo hi = false) := bufOk2_no1
  have N2 : Hid (∀ i, i < T.buf.length → msgAt T lo hi i = false → bufOk2B T lo hi = false) := fun i => bufOk2_no2
  have YY : Hid (T.buf.length ≤ 6 → (∀ i, i < T.buf.length → msgAt T lo hi i = true) → bufOk2B T lo hi = true) := bufOk2_yes
  generalize bufOk2B T lo hi = R at *
  have GO : Hid (∀ i, i < T.buf.length → w.cell? ⟨b4, off4 + i * 3, none⟩ = some (.int .i64 (mO T.buf i))) := go
  have GK : Hid (∀ i, i < T.buf.length → w.cell? ⟨b4, off4 + i * 3 + 1, none⟩ = some (.int .i64 (mK T.buf i))) := gk
  have GV : Hid (∀ i, i < T.buf.length → w.cell? ⟨b4, off4 + i * 3 + 2, none⟩ = some (.int .i64 (mV T.buf i))) := gv
  have A4 : Hid (0 < T.buf.length → a4 = some ⟨b4, off4, none⟩) := ha4
  clear go gk gv ha4
  generalize T.buf.length = n4 at *
  show Calls Try.prog 52 #[.agg #[.int .i64 kd, .int .i64 lo, .int .i64 hi, .int .i64 ab, .bool lf, p, c, k, .slice a4 n4 q4]] w _
  have B0 : Hid _ := bel_new w (.cells #[.int .i64 kd, .int .i64 lo, .int .i64 hi, .int .i64 ab, .bool lf, p, c, k, .slice a4 n4 q4] 85)
  have S0 : Hid (BoxAt 85 _ w.heap.size _) := BoxAt.start 85 w #[.int .i64 kd, .int .i64 lo, .int .i64 hi, .int .i64 ab, .bool lf, p, c, k, .slice a4 n4 q4]
  by_cases h6 : n4 ≤ 6
  case neg =>
    have E := N1.out h6
    subst E
    have h6' : (6 : Int) < (n4 : Int) := by omega
    clear N1 N2 YY GO GK GV A4 S0
    go_enter Try.func52, Try.ntmps52
    go_wp2
    go_ret
    exact ⟨rfl, B0.out⟩
  case pos =>
  have h6' : ¬ (6 : Int) < (n4 : Int) := by omega
  go_enter Try.func52, Try.ntmps52
  go_wp2
  go_loopw [14] (fun i wr => ∃ k' : Nat, k' ≤ n4 ∧ i = .int .i64 k' ∧ Hid (∀ i, i < k' → msgAt T lo hi i = true) ∧ Hid (Below w.heap.size w wr) ∧ Hid (BoxAt 85 wr w.heap.size #[.int .i64 kd, .int .i64 lo, .int .i64 hi, .int .i64 ab, .bool lf, p, c, k, .slice a4 n4 q4]))
    (fun i _ => n4 - (intOf i).toNat)
  case atStart => exact ⟨0, Nat.zero_le _, rfl, fun i hi => absurd hi (Nat.not_lt_zero _), B0, S0⟩
  case round =>
    clear B0 S0
    obtain ⟨k', hkl, rfl, ALL, BB, SS⟩ := hrel
    have k0 := SS.out.cells
    by_cases hlt : k' < n4
    · have hal := A4.out (by omega)
      subst hal
      have d0 := (BB.out.cell (by exact cell_lt (GO.out k' hlt))).trans (GO.out k' hlt)
      have d1 := (BB.out.cell (by exact cell_lt (GK.out k' hlt))).trans (GK.out k' hlt)
      have d2 := (BB.out.cell (by exact cell_lt (GV.out k' hlt))).trans (GV.out k' hlt)
      have hwb : w.heap.size < wr.heap.size := (Array.getElem?_eq_some_iff.1 SS.out).1
      have hwn : ¬ w.heap.size = wr.heap.size := by omega
      have MA : Hid (msgAt T lo hi k' = (msgOkB (mO T.buf k') (mK T.buf k') (mV T.buf k') && (!(mO T.buf k' == 4) && inB (mK T.buf k') lo (hi - 1)))) := rfl
      have NO : Hid (msgAt T lo hi k' = false → R = false) := N2.out k' hlt
      generalize mO T.buf k' = o at *
      generalize mK T.buf k' = ky at *
      generalize mV T.buf k' = v at *
      have B2 : Hid (Below w.heap.size w (wr.alloc (.cells #[.int .i64 o, .int .i64 ky, .int .i64 v] 78))) := BB.out.alloc (by omega) _
      have S2 : Hid (BoxAt 85 (wr.alloc (.cells #[.int .i64 o, .int .i64 ky, .int .i64 v] 78)) w.heap.size _) := SS.out.step (bel_new _ _)
      have M2 : Hid (BoxAt 78 (wr.alloc (.cells #[.int .i64 o, .int .i64 ky, .int .i64 v] 78)) wr.heap.size _) := BoxAt.start 78 wr #[.int .i64 o, .int .i64 ky, .int .i64 v]
      cases hmo : msgOkB o ky v
      · have E := NO.out (by rw [MA.out, hmo]; rfl)
        subst E
        go_wp2_with fail
        refine (implMsgOk_any _ _ _ _).mono ?_
        rintro e w2 ⟨he, hb2⟩
        rw [hmo] at he
        subst he
        have B3 : Hid (Below w.heap.size w w2) := Below.and B2.out hb2
        clear hb2
        go_wp2
        go_ret
        exact ⟨rfl, B3.out⟩
      · cases ho : (o == 4)
        · cases hq : inB ky lo (hi - 1)
          · have E := NO.out (by rw [MA.out, hq]; simp)
            subst E
            go_wp2_with fail
            refine (implMsgOk_any _ _ _ _).mono ?_
            rintro e w2 ⟨he, hb2⟩
            rw [hmo] at he
            subst he
            have B3 : Hid (Below w.heap.size w w2) := Below.and B2.out hb2
            have j0 := (S2.out.step hb2).cells
            have j1 := (M2.out.step hb2).cells
            clear hb2
            go_wp2_with fail
            refine (has_any _ _ _ _ _ _).mono ?_
            rintro e w3 ⟨he, hb3⟩
            rw [hq] at he
            subst he
            have B4 : Hid (Below w.heap.size w w3) := Below.and B3.out hb3
            clear hb3
            go_wp2
            go_ret
            exact ⟨rfl, B4.out⟩
          · have OK : Hid (msgAt T lo hi k' = true) := by
              show _ = _
              rw [MA.out, hmo, ho, hq]; rfl
            go_wp2_with fail
            refine (implMsgOk_any _ _ _ _).mono ?_
            rintro e w2 ⟨he, hb2⟩
            rw [hmo] at he
            subst he
            have B3 : Hid (Below w.heap.size w w2) := Below.and B2.out hb2
            have S3 : Hid (BoxAt 85 w2 w.heap.size _) := S2.out.step hb2
            have j0 := S3.out.cells
            have j1 := (M2.out.step hb2).cells
            clear hb2
            go_wp2_with fail
            refine (has_any _ _ _ _ _ _).mono ?_
            rintro e w3 ⟨he, hb3⟩
            rw [hq] at he
            subst he
            have B4 : Hid (Below w.heap.size w w3) := Below.and B3.out hb3
            have S4 : Hid (BoxAt 85 w3 w.heap.size _) := S3.out.step hb3
            clear hb3
            go_wp2
            go_roundw
            case rel => exact ⟨k' + 1, by omega, by go_num, fun i hi => if h : i < k' then ALL.out i h else by rw [show i = k' by omega]; exact OK.out, B4, S4⟩
            case measure => simp [intOf]; omega
        · have E := NO.out (by rw [MA.out, ho]; simp)
          subst E
          go_wp2_with fail
          refine (implMsgOk_any _ _ _ _).mono ?_
          rintro e w2 ⟨he, hb2⟩
          rw [hmo] at he
          subst he
          have B3 : Hid (Below w.heap.size w w2) := Below.and B2.out hb2
          have j0 := (S2.out.step hb2).cells
          have j1 := (M2.out.step hb2).cells
          clear hb2
          go_wp2
          go_ret
          exact ⟨rfl, B3.out⟩
    · have E := YY.out h6 (fun i hi => ALL.out i (by omega))
      subst E
      go_wp2
      go_ret
      exact ⟨rfl, BB.out⟩

end Go.Proofs.Ytmoaccohnmkleaa
