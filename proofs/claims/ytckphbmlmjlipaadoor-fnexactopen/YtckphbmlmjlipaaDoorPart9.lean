/-
  Contracts of the program's chapter 2: pairsOk, cutsOk, bufOk.
  Contracts of the program's chapter 2: bufOk.
  Contracts of the program's chapter 2: depthByKids, depth.
  Contracts of the program's chapter 2: TreeDepth, TreeOk, countAll, TreeCount, kidAt, KidOf.
-/
import Derived.Test.YtckphbmlmjlipaaDoorPart8
import Derived.Test.YtckphbmlmjlipaaDoorTreeImplC
namespace Go.Proofs.YtckphbmlmjlipaaDoor
open Go.RowKit

def pairsOkB (T : Tr) (lo hi : Int) : Bool := decide (T.pairs.length ≤ 4) && (mapOkB T.pairs && pairsInB T lo hi)
theorem pairsOk_no1 {T : Tr} {lo hi : Int} (h : ¬ T.pairs.length ≤ 4) : pairsOkB T lo hi = false := by rw [pairsOkB, decide_eq_false h]; rfl
theorem pairsOk_no2 {T : Tr} {lo hi : Int} (h : mapOkB T.pairs = false) : pairsOkB T lo hi = false := by rw [pairsOkB, h]; simp
theorem pairsOk_no3 {T : Tr} {lo hi : Int} {i : Nat} (hi' : i < T.pairs.length) (h : pairAt T lo hi i = false) : pairsOkB T lo hi = false := by rw [pairsOkB, pairsInB, allB_false hi' h]; simp
theorem pairsOk_yes {T : Tr} {lo hi : Int} (h1 : T.pairs.length ≤ 4) (h2 : mapOkB T.pairs = true) (h3 : ∀ i, i < T.pairs.length → pairAt T lo hi i = true) : pairsOkB T lo hi = true := by
  rw [pairsOkB, decide_eq_true h1, h2, pairsInB, allB_true h3]; rfl

set_option maxHeartbeats 2000000 in
theorem pairsOk_any (n : Nat) (x : TV) (T : Tr) (kd lo hi ab : Int) (w : World) (ht : TreeAt n w x T) :
    Calls Tryd.prog 67 #[placedV kd lo hi ab x] w fun e w' => e = .returned (.bool (pairsOkB T lo hi)) ∧ Below w.heap.size w w' := by
  cases n with
  | zero => exact ht.elim
  | succ n =>
  obtain ⟨lf, p, c, k, b⟩ := x
  obtain ⟨-, hp, -, -, -⟩ := ht.parts
  simp only at hp
  obtain ⟨a, bb, off, cap, rfl, hcap, hmax, ha, ck, cv⟩ := hp.pairs
  have R1 : Hid (Row w (.slice a T.pairs.length cap) T.pairs.length (flatP T.pairs)) := hp
  unfold maxLen at hmax
  clear ht hp
  have N1 : Hid (¬ T.pairs.length ≤ 4 → pairsOkB T lo hi = false) := pairsOk_no1
  have N2 : Hid (mapOkB T.pairs = false → pairsOkB T lo hi = false) := pairsOk_no2
  have N3 : Hid (∀ i, i < T.pairs.length → pairAt T lo hi i = false → pairsOkB T lo hi = false) := fun i => pairsOk_no3
  have YY : Hid (T.pairs.length ≤ 4 → mapOkB T.pairs = true → (∀ i, i < T.pairs.length → pairAt T lo hi i = true) → pairsOkB T lo hi = true) := pairsOk_yes
  generalize pairsOkB T lo hi = R at *
  have PA : Hid (∀ i, pairAt T lo hi i = inB (kOf T.pairs i) lo (hi - 1)) := fun i => rfl
  have MO : Hid (∀ w1, Below w.heap.size w w1 → Calls Tryd.prog 77 #[.slice a T.pairs.length cap] w1 fun e w' => e = .returned (.bool (mapOkB T.pairs)) ∧ Below w1.heap.size w1 w') := fun w1 hb => implMapOk_any _ T.pairs w1 (R1.out.below hb)
  generalize mapOkB T.pairs = MB at *
  clear R1
  generalize T.pairs.length = n1 at *
  show Calls Tryd.prog 67 #[.agg #[.int .i64 kd, .int .i64 lo, .int .i64 hi, .int .i64 ab, .bool lf, .slice a n1 cap, c, k, b]] w _
  have B0 : Hid _ := bel_new w (.cells #[.int .i64 kd, .int .i64 lo, .int .i64 hi, .int .i64 ab, .bool lf, .slice a n1 cap, c, k, b] 97)
  have S0 : Hid (BoxAt 97 _ w.heap.size _) := BoxAt.start 97 w #[.int .i64 kd, .int .i64 lo, .int .i64 hi, .int .i64 ab, .bool lf, .slice a n1 cap, c, k, b]
  by_cases h4 : n1 ≤ 4
  case neg =>
    have E := N1.out h4
    subst E
    have h4' : (4 : Int) < (n1 : Int) := by omega
    clear N1 N2 N3 YY PA MO ck cv ha S0
    go_enter Tryd.func67, Tryd.ntmps67
    go_wp2
    go_ret
    exact ⟨rfl, B0.out⟩
  case pos =>
  have h4' : ¬ (4 : Int) < (n1 : Int) := by omega
  cases MB with
  | false =>
    have E := N2.out rfl
    subst E
    clear N1 N2 N3 YY PA ck cv ha S0
    go_enter Tryd.func67, Tryd.ntmps67
    go_wp2_with fail
    refine Calls.mono (MO.out _ B0.out) ?_
    rintro e w1 ⟨rfl, hb1⟩
    have B1 : Hid (Below w.heap.size w w1) := Below.and B0.out hb1
    clear hb1
    go_wp2
    go_ret
    exact ⟨rfl, B1.out⟩
  | true =>
    have CK : Hid (∀ i, i < n1 → w.cell? ⟨bb, off + i * 2, none⟩ = some (.int .i64 (kOf T.pairs i))) := ck
    have CV : Hid (∀ i, i < n1 → w.cell? ⟨bb, off + i * 2 + 1, none⟩ = some (.int .i64 (vOf T.pairs i))) := cv
    have A1 : Hid (0 < n1 → a = some ⟨bb, off, none⟩) := ha
    clear ck cv ha
    go_enter Tryd.func67, Tryd.ntmps67
    go_wp2_with fail
    refine Calls.mono (MO.out _ B0.out) ?_
    rintro e w1 ⟨rfl, hb1⟩
    have B1 : Hid (Below w.heap.size w w1) := Below.and B0.out hb1
    have S1 : Hid (BoxAt 97 w1 w.heap.size #[.int .i64 kd, .int .i64 lo, .int .i64 hi, .int .i64 ab, .bool lf, .slice a n1 cap, c, k, b]) := S0.out.step hb1
    have k0 := S1.out.cells
    clear hb1 B0 S0
    go_wp2
    go_loopw [21] (fun i wr => ∃ k' : Nat, k' ≤ n1 ∧ i = .int .i64 k' ∧ Hid (∀ i, i < k' → pairAt T lo hi i = true) ∧ Hid (Below w.heap.size w wr) ∧ Hid (BoxAt 97 wr w.heap.size #[.int .i64 kd, .int .i64 lo, .int .i64 hi, .int .i64 ab, .bool lf, .slice a n1 cap, c, k, b]))
      (fun i _ => n1 - (intOf i).toNat)
    case atStart => exact ⟨0, Nat.zero_le _, rfl, fun i hi => absurd hi (Nat.not_lt_zero _), B1, S1⟩
    case round =>
      clear B1 S1 k0
      obtain ⟨k', hkl, rfl, ALL, BB, SS⟩ := hrel
      have k0 := SS.out.cells
      by_cases hlt : k' < n1
      · have hal := A1.out (by omega)
        subst hal
        have d0 := (BB.out.cell (by exact cell_lt (CK.out k' hlt))).trans (CK.out k' hlt)
        have d1 := (BB.out.cell (by exact cell_lt (CV.out k' hlt))).trans (CV.out k' hlt)
        have hwb : w.heap.size < wr.heap.size := by
          have := (Array.getElem?_eq_some_iff.1 SS.out).1
          exact this
        have B2 : Hid (∀ o, Below w.heap.size w (wr.alloc o)) := fun o => BB.out.alloc (by omega) o
        have S2 : Hid (∀ o, BoxAt 97 (wr.alloc o) w.heap.size _) := fun o => SS.out.step (bel_new _ _)
        have hwn : ¬ w.heap.size = wr.heap.size := by omega
        cases hq : inB (kOf T.pairs k') lo (hi - 1)
        · have E := N3.out k' hlt hq
          subst E
          go_wp2_with fail
          refine (has_any _ _ _ _ _ _).mono ?_
          rintro e w2 ⟨he, hb2⟩
          rw [hq] at he
          subst he
          have B3 : Hid (Below w.heap.size w w2) := Below.and (B2.out _) hb2
          clear hb2
          go_wp2
          go_ret
          exact ⟨rfl, B3.out⟩
        · have OK : Hid (pairAt T lo hi k' = true) := hq
          go_wp2_with fail
          refine (has_any _ _ _ _ _ _).mono ?_
          rintro e w2 ⟨he, hb2⟩
          rw [hq] at he
          subst he
          have B3 : Hid (Below w.heap.size w w2) := Below.and (B2.out _) hb2
          have S3 : Hid (BoxAt 97 w2 w.heap.size _) := (S2.out _).step hb2
          clear hb2
          go_wp2
          go_roundw
          case rel => exact ⟨k' + 1, by omega, by go_num, fun i hi => if h : i < k' then ALL.out i h else by rw [show i = k' by omega]; exact OK.out, B3, S3⟩
          case measure => simp [intOf]; omega
      · have E := YY.out h4 trivial (fun i hi => ALL.out i (by omega))
        subst E
        go_wp2
        go_ret
        exact ⟨rfl, BB.out⟩

def cutsOk2B (T : Tr) (lo hi : Int) : Bool := decide (2 ≤ T.kids.length ∧ T.kids.length ≤ 4) && (decide (T.cuts.length + 1 = T.kids.length) && cutsOkB T lo hi)
theorem cutsOk2_no1 {T : Tr} {lo hi : Int} (h : ¬ (2 ≤ T.kids.length ∧ T.kids.length ≤ 4)) : cutsOk2B T lo hi = false := by rw [cutsOk2B, decide_eq_false h]; rfl
theorem cutsOk2_no2 {T : Tr} {lo hi : Int} (h : ¬ T.cuts.length + 1 = T.kids.length) : cutsOk2B T lo hi = false := by rw [cutsOk2B, decide_eq_false h]; simp
theorem cutsOk2_no3 {T : Tr} {lo hi : Int} {i : Nat} (hi' : i < T.cuts.length) (h : cutAt T lo hi i = false) : cutsOk2B T lo hi = false := by rw [cutsOk2B, cutsOkB, allB_false hi' h]; simp
theorem cutsOk2_yes {T : Tr} {lo hi : Int} (h1 : 2 ≤ T.kids.length ∧ T.kids.length ≤ 4) (h2 : T.cuts.length + 1 = T.kids.length) (h3 : ∀ i, i < T.cuts.length → cutAt T lo hi i = true) : cutsOk2B T lo hi = true := by
  rw [cutsOk2B, decide_eq_true h1, decide_eq_true h2, cutsOkB, allB_true h3]; rfl
theorem cutAt_zero (T : Tr) (lo hi : Int) : cutAt T lo hi 0 = inB (iAt T.cuts 0) (lo + 1) (hi - 1) := rfl
theorem cutAt_succ (T : Tr) (lo hi : Int) (k : Nat) : cutAt T lo hi (k + 1) = inB (iAt T.cuts (k + 1)) (iAt T.cuts k + 1) (hi - 1) := rfl

set_option maxHeartbeats 2000000 in
theorem cutsOk_any (n : Nat) (x : TV) (T : Tr) (kd lo hi ab : Int) (w : World) (ht : TreeAt n w x T) :
    Calls Tryd.prog 68 #[placedV kd lo hi ab x] w fun e w' => e = .returned (.bool (cutsOk2B T lo hi)) ∧ Below w.heap.size w w' := by
  cases n with
  | zero => exact ht.elim
  | succ n =>
  obtain ⟨lf, p, c, k, b⟩ := x
  obtain ⟨-, -, hc, -, hk⟩ := ht.parts
  simp only at hc hk
  obtain ⟨a2, b2, off2, q2, rfl, hcap2, hmax2, ha2, cc⟩ := hc.ints
  obtain ⟨a3, q3, rfl, m3⟩ := hk.len
  unfold maxLen at hmax2 m3
  clear ht hc hk
  have N1 : Hid (¬ (2 ≤ T.kids.length ∧ T.kids.length ≤ 4) → cutsOk2B T lo hi = false) := cutsOk2_no1
  have N2 : Hid (¬ T.cuts.length + 1 = T.kids.length → cutsOk2B T lo hi = false) := cutsOk2_no2
  have N3 : Hid (∀ i, i < T.cuts.length → cutAt T lo hi i = false → cutsOk2B T lo hi = false) := fun i => cutsOk2_no3
  have YY : Hid ((2 ≤ T.kids.length ∧ T.kids.length ≤ 4) → T.cuts.length + 1 = T.kids.length → (∀ i, i < T.cuts.length → cutAt T lo hi i = true) → cutsOk2B T lo hi = true) := cutsOk2_yes
  generalize cutsOk2B T lo hi = R at *
  generalize T.cuts.length = n2 at *
  generalize T.kids.length = n3 at *
  show Calls Tryd.prog 68 #[.agg #[.int .i64 kd, .int .i64 lo, .int .i64 hi, .int .i64 ab, .bool lf, p, .slice a2 n2 q2, .slice a3 n3 q3, b]] w _
  have B0 : Hid _ := bel_new w (.cells #[.int .i64 kd, .int .i64 lo, .int .i64 hi, .int .i64 ab, .bool lf, p, .slice a2 n2 q2, .slice a3 n3 q3, b] 97)
  have S0 : Hid (BoxAt 97 _ w.heap.size _) := BoxAt.start 97 w #[.int .i64 kd, .int .i64 lo, .int .i64 hi, .int .i64 ab, .bool lf, p, .slice a2 n2 q2, .slice a3 n3 q3, b]
  have CC : Hid (∀ i, i < n2 → w.cell? ⟨b2, off2 + i, none⟩ = some (.int .i64 (iAt T.cuts i))) := cc
  have A2 : Hid (0 < n2 → a2 = some ⟨b2, off2, none⟩) := ha2
  clear cc ha2
  by_cases hlo : n3 < 2
  · have E := N1.out (by omega)
    subst E
    have h2 : (n3 : Int) < 2 := by omega
    clear N1 N2 N3 YY CC A2 S0
    go_enter Tryd.func68, Tryd.ntmps68
    go_wp2_with fail
    go_quiet (fail)
    go_wp2
    go_ret
    exact ⟨rfl, below_drewN B0.out _⟩
  by_cases hhi : 4 < n3
  · have E := N1.out (by omega)
    subst E
    have h2 : ¬ (n3 : Int) < 2 := by omega
    have h4 : (4 : Int) < (n3 : Int) := by omega
    clear N1 N2 N3 YY CC A2 S0
    go_enter Tryd.func68, Tryd.ntmps68
    go_wp2_with fail
    go_quiet (fail)
    go_wp2
    go_ret
    exact ⟨rfl, below_drewN B0.out _⟩
  have h2 : ¬ (n3 : Int) < 2 := by omega
  have h4 : ¬ (4 : Int) < (n3 : Int) := by omega
  by_cases hcl : n2 + 1 = n3
  case neg =>
    have E := N2.out hcl
    subst E
    have hc1 : ((n2 : Int) != (n3 : Int) - 1) = true := by rw [bne_iff_ne]; omega
    clear N1 N2 N3 YY CC A2 S0 hcl
    go_enter Tryd.func68, Tryd.ntmps68
    go_wp2_with fail
    go_quiet (fail)
    go_wp2
    go_ret
    exact ⟨rfl, below_drewN B0.out _⟩
  case pos =>
  have hc1 : ((n2 : Int) != (n3 : Int) - 1) = false := by rw [bne_eq_false_iff_eq]; omega
  have YY2 : Hid ((∀ i, i < n2 → cutAt T lo hi i = true) → R = true) := YY.out ⟨by omega, by omega⟩ hcl
  clear N1 N2 YY hcl
  go_enter Tryd.func68, Tryd.ntmps68
  go_wp2_with fail
  go_quiet (fail)
  go_wp2
  go_loopw [29] (fun i wr => ∃ k' : Nat, k' ≤ n2 ∧ i = .int .i64 k' ∧ Hid (∀ i, i < k' → cutAt T lo hi i = true ∧ lo < iAt T.cuts i) ∧ Hid (Below w.heap.size w wr) ∧ Hid (BoxAt 97 wr w.heap.size #[.int .i64 kd, .int .i64 lo, .int .i64 hi, .int .i64 ab, .bool lf, p, .slice a2 n2 q2, .slice a3 n3 q3, b]))
    (fun i _ => n2 - (intOf i).toNat)
  case atStart => exact ⟨0, Nat.zero_le _, rfl, fun i hi => absurd hi (Nat.not_lt_zero _), below_drewN B0.out _, S0.out.step (below_drewN (Below.refl _ _) _)⟩
  case round =>
    clear B0 S0
    obtain ⟨k', hkl, rfl, ALL, BB, SS⟩ := hrel
    have k0 := SS.out.cells
    by_cases hlt : k' < n2
    · have hal := A2.out (by omega)
      subst hal
      have d0 := (BB.out.cell (by exact cell_lt (CC.out k' hlt))).trans (CC.out k' hlt)
      cases hs : inB (iAt T.cuts k') (lo + 1) (hi - 1)
      · have E := N3.out k' hlt (by
          cases k' with
          | zero => exact hs
          | succ k' =>
            have h1 := (ALL.out k' (by omega)).2
            rw [cutAt_succ]
            cases hx : inB (iAt T.cuts (k' + 1)) (iAt T.cuts k' + 1) (hi - 1)
            · rfl
            · have h3 := inB_iff.1 hx
              rw [inB_true (by omega) (by omega)] at hs
              cases hs)
        subst E
        go_wp2_with fail
        refine (splits_any _ _ _ _ _ _).mono ?_
        rintro e w2 ⟨he, hb2⟩
        rw [hs] at he
        subst he
        have B3 : Hid (Below w.heap.size w w2) := Below.and BB.out hb2
        clear hb2
        go_wp2
        go_ret
        exact ⟨rfl, B3.out⟩
      · have hs2 := inB_iff.1 hs
        cases k' with
        | zero =>
          simp only [Nat.add_zero] at d0
          have OK : Hid (cutAt T lo hi 0 = true ∧ lo < iAt T.cuts 0) := ⟨hs, by omega⟩
          go_wp2_with fail
          refine (splits_any _ _ _ _ _ _).mono ?_
          rintro e w2 ⟨he, hb2⟩
          rw [hs] at he
          subst he
          have B3 : Hid (Below w.heap.size w w2) := Below.and BB.out hb2
          have S3 : Hid (BoxAt 97 w2 w.heap.size _) := SS.out.step hb2
          clear hb2
          go_wp2
          go_roundw
          case rel => exact ⟨1, by omega, by go_num, fun i hi => by rw [show i = 0 by omega]; exact OK.out, B3, S3⟩
          case measure => simp [intOf]; omega
        | succ k' =>
          have hpos : (0 : Int) < ((k' + 1 : Nat) : Int) := by omega
          have hpos2 : 0 < k' + 1 := by omega
          have hwk : IntKind.i64.wrap (k' : Int) = (k' : Int) := by rw [IntKind.wrap_i64]; omega
          have hk2 : k' < n2 := by omega
          have d1 := (BB.out.cell (by exact cell_lt (CC.out k' hk2))).trans (CC.out k' hk2)
          by_cases ho : iAt T.cuts (k' + 1) ≤ iAt T.cuts k'
          · have E := N3.out (k' + 1) hlt (by rw [cutAt_succ]; exact inB_false1 (by omega))
            subst E
            go_wp2_with fail
            refine (splits_any _ _ _ _ _ _).mono ?_
            rintro e w2 ⟨he, hb2⟩
            rw [hs] at he
            subst he
            have B3 : Hid (Below w.heap.size w w2) := Below.and BB.out hb2
            have f1 := (hb2.cell (by exact cell_lt d1)).trans d1
            clear hb2
            go_wp2
            go_ret
            exact ⟨rfl, B3.out⟩
          · have OK : Hid (cutAt T lo hi (k' + 1) = true ∧ lo < iAt T.cuts (k' + 1)) := ⟨by rw [cutAt_succ]; exact inB_true (by omega) (by omega), by omega⟩
            go_wp2_with fail
            refine (splits_any _ _ _ _ _ _).mono ?_
            rintro e w2 ⟨he, hb2⟩
            rw [hs] at he
            subst he
            have B3 : Hid (Below w.heap.size w w2) := Below.and BB.out hb2
            have S3 : Hid (BoxAt 97 w2 w.heap.size _) := SS.out.step hb2
            have f1 := (hb2.cell (by exact cell_lt d1)).trans d1
            clear hb2
            go_wp2
            go_roundw
            case rel => exact ⟨k' + 1 + 1, by omega, by go_num, fun i hi => if h : i < k' + 1 then ALL.out i h else by rw [show i = k' + 1 by omega]; exact OK.out, B3, S3⟩
            case measure => simp [intOf]; omega
    · have E := YY2.out (fun i hi => (ALL.out i (by omega)).1)
      subst E
      go_wp2
      go_ret
      exact ⟨rfl, BB.out⟩

end Go.Proofs.YtckphbmlmjlipaaDoor

namespace Go.Proofs.YtckphbmlmjlipaaDoor
open Go.RowKit

def bufOk2B (T : Tr) (lo hi : Int) : Bool := decide (T.buf.length ≤ 6) && bufOkB T lo hi
theorem bufOk2_no1 {T : Tr} {lo hi : Int} (h : ¬ T.buf.length ≤ 6) : bufOk2B T lo hi = false := by rw [bufOk2B, decide_eq_false h]; rfl
theorem bufOk2_no2 {T : Tr} {lo hi : Int} {i : Nat} (hi' : i < T.buf.length) (h : msgAt T lo hi i = false) : bufOk2B T lo hi = false := by rw [bufOk2B, bufOkB, allB_false hi' h]; simp
theorem bufOk2_yes {T : Tr} {lo hi : Int} (h1 : T.buf.length ≤ 6) (h3 : ∀ i, i < T.buf.length → msgAt T lo hi i = true) : bufOk2B T lo hi = true := by
  rw [bufOk2B, decide_eq_true h1, bufOkB, allB_true h3]; rfl

set_option maxHeartbeats 2000000 in
theorem bufOk_any (n : Nat) (x : TV) (T : Tr) (kd lo hi ab : Int) (w : World) (ht : TreeAt n w x T) :
    Calls Tryd.prog 69 #[placedV kd lo hi ab x] w fun e w' => e = .returned (.bool (bufOk2B T lo hi)) ∧ Below w.heap.size w w' := by
  cases n with
  | zero => exact ht.elim
  | succ n =>
  obtain ⟨lf, p, c, k, b⟩ := x
  obtain ⟨-, -, -, hb, -⟩ := ht.parts
  simp only at hb
  obtain ⟨a4, b4, off4, q4, rfl, hcap4, hmax4, ha4, go, gk, gv⟩ := hb.msgs
  unfold maxLen at hmax4
  clear ht hb
  have N1 : Hid (¬ T.buf.length ≤ 6 → bufOk2B T lo hi = false) := bufOk2_no1
  have N2 : Hid (∀ i, i < T.buf.length → msgAt T lo hi i = false → bufOk2B T lo hi = false) := fun i => bufOk2_no2
  have YY : Hid (T.buf.length ≤ 6 → (∀ i, i < T.buf.length → msgAt T lo hi i = true) → bufOk2B T lo hi = true) := bufOk2_yes
  generalize bufOk2B T lo hi = R at *
  have GO : Hid (∀ i, i < T.buf.length → w.cell? ⟨b4, off4 + i * 3, none⟩ = some (.int .i64 (mO T.buf i))) := go
  have GK : Hid (∀ i, i < T.buf.length → w.cell? ⟨b4, off4 + i * 3 + 1, none⟩ = some (.int .i64 (mK T.buf i))) := gk
  have GV : Hid (∀ i, i < T.buf.length → w.cell? ⟨b4, off4 + i * 3 + 2, none⟩ = some (.int .i64 (mV T.buf i))) := gv
  have A4 : Hid (0 < T.buf.length → a4 = some ⟨b4, off4, none⟩) := ha4
  clear go gk gv ha4
  generalize T.buf.length = n4 at *
  show Calls Tryd.prog 69 #[.agg #[.int .i64 kd, .int .i64 lo, .int .i64 hi, .int .i64 ab, .bool lf, p, c, k, .slice a4 n4 q4]] w _
  have B0 : Hid _ := bel_new w (.cells #[.int .i64 kd, .int .i64 lo, .int .i64 hi, .int .i64 ab, .bool lf, p, c, k, .slice a4 n4 q4] 97)
  have S0 : Hid (BoxAt 97 _ w.heap.size _) := BoxAt.start 97 w #[.int .i64 kd, .int .i64 lo, .int .i64 hi, .int .i64 ab, .bool lf, p, c, k, .slice a4 n4 q4]
  by_cases h6 : n4 ≤ 6
  case neg =>
    have E := N1.out h6
    subst E
    have h6' : (6 : Int) < (n4 : Int) := by omega
    clear N1 N2 YY GO GK GV A4 S0
    go_enter Tryd.func69, Tryd.ntmps69
    go_wp2
    go_ret
    exact ⟨rfl, B0.out⟩
  case pos =>
  have h6' : ¬ (6 : Int) < (n4 : Int) := by omega
  go_enter Tryd.func69, Tryd.ntmps69
  go_wp2
  go_loopw [14] (fun i wr => ∃ k' : Nat, k' ≤ n4 ∧ i = .int .i64 k' ∧ Hid (∀ i, i < k' → msgAt T lo hi i = true) ∧ Hid (Below w.heap.size w wr) ∧ Hid (BoxAt 97 wr w.heap.size #[.int .i64 kd, .int .i64 lo, .int .i64 hi, .int .i64 ab, .bool lf, p, c, k, .slice a4 n4 q4]))
    (fun i _ => n4 - (intOf i).toNat)
  case atStart => exact ⟨0, Nat.zero_le _, rfl, fun i hi => absurd hi (Nat.not_lt_zero _), B0, S0⟩
  case round =>
    clear B0 S0
    obtain ⟨k', hkl, rfl, ALL, BB, SS⟩ := hrel
    have k0 := SS.out.cells
    by_cases hlt : k' < n4
    · have hal := A4.out (by omega)
      subst hal
      have d0 := (BB.out.cell (by exact cell_lt (GO.out k' hlt))).trans (GO.out k' hlt)
      have d1 := (BB.out.cell (by exact cell_lt (GK.out k' hlt))).trans (GK.out k' hlt)
      have d2 := (BB.out.cell (by exact cell_lt (GV.out k' hlt))).trans (GV.out k' hlt)
      have hwb : w.heap.size < wr.heap.size := (Array.getElem?_eq_some_iff.1 SS.out).1
      have hwn : ¬ w.heap.size = wr.heap.size := by omega
      have MA : Hid (msgAt T lo hi k' = (msgOkB (mO T.buf k') (mK T.buf k') (mV T.buf k') && (!(mO T.buf k' == 4) && inB (mK T.buf k') lo (hi - 1)))) := rfl
      have NO : Hid (msgAt T lo hi k' = false → R = false) := N2.out k' hlt
      generalize mO T.buf k' = o at *
      generalize mK T.buf k' = ky at *
      generalize mV T.buf k' = v at *
      have B2 : Hid (Below w.heap.size w (wr.alloc (.cells #[.int .i64 o, .int .i64 ky, .int .i64 v] 83))) := BB.out.alloc (by omega) _
      have S2 : Hid (BoxAt 97 (wr.alloc (.cells #[.int .i64 o, .int .i64 ky, .int .i64 v] 83)) w.heap.size _) := SS.out.step (bel_new _ _)
      have M2 : Hid (BoxAt 83 (wr.alloc (.cells #[.int .i64 o, .int .i64 ky, .int .i64 v] 83)) wr.heap.size _) := BoxAt.start 83 wr #[.int .i64 o, .int .i64 ky, .int .i64 v]
      cases hmo : msgOkB o ky v
      · have E := NO.out (by rw [MA.out, hmo]; rfl)
        subst E
        go_wp2_with fail
        refine (implMsgOk_any _ _ _ _).mono ?_
        rintro e w2 ⟨he, hb2⟩
        rw [hmo] at he
        subst he
        have B3 : Hid (Below w.heap.size w w2) := Below.and B2.out hb2
        clear hb2
        go_wp2
        go_ret
        exact ⟨rfl, B3.out⟩
      · cases ho : (o == 4)
        · cases hq : inB ky lo (hi - 1)
          · have E := NO.out (by rw [MA.out, hq]; simp)
            subst E
            go_wp2_with fail
            refine (implMsgOk_any _ _ _ _).mono ?_
            rintro e w2 ⟨he, hb2⟩
            rw [hmo] at he
            subst he
            have B3 : Hid (Below w.heap.size w w2) := Below.and B2.out hb2
            have j0 := (S2.out.step hb2).cells
            have j1 := (M2.out.step hb2).cells
            clear hb2
            go_wp2_with fail
            refine (has_any _ _ _ _ _ _).mono ?_
            rintro e w3 ⟨he, hb3⟩
            rw [hq] at he
            subst he
            have B4 : Hid (Below w.heap.size w w3) := Below.and B3.out hb3
            clear hb3
            go_wp2
            go_ret
            exact ⟨rfl, B4.out⟩
          · have OK : Hid (msgAt T lo hi k' = true) := by
              show _ = _
              rw [MA.out, hmo, ho, hq]; rfl
            go_wp2_with fail
            refine (implMsgOk_any _ _ _ _).mono ?_
            rintro e w2 ⟨he, hb2⟩
            rw [hmo] at he
            subst he
            have B3 : Hid (Below w.heap.size w w2) := Below.and B2.out hb2
            have S3 : Hid (BoxAt 97 w2 w.heap.size _) := S2.out.step hb2
            have j0 := S3.out.cells
            have j1 := (M2.out.step hb2).cells
            clear hb2
            go_wp2_with fail
            refine (has_any _ _ _ _ _ _).mono ?_
            rintro e w3 ⟨he, hb3⟩
            rw [hq] at he
            subst he
            have B4 : Hid (Below w.heap.size w w3) := Below.and B3.out hb3
            have S4 : Hid (BoxAt 97 w3 w.heap.size _) := S3.out.step hb3
            clear hb3
            go_wp2
            go_roundw
            case rel => exact ⟨k' + 1, by omega, by go_num, fun i hi => if h : i < k' then ALL.out i h else by rw [show i = k' by omega]; exact OK.out, B4, S4⟩
            case measure => simp [intOf]; omega
        · have E := NO.out (by rw [MA.out, ho]; simp)
          subst E
          go_wp2_with fail
          refine (implMsgOk_any _ _ _ _).mono ?_
          rintro e w2 ⟨he, hb2⟩
          rw [hmo] at he
          subst he
          have B3 : Hid (Below w.heap.size w w2) := Below.and B2.out hb2
          have j0 := (S2.out.step hb2).cells
          have j1 := (M2.out.step hb2).cells
          clear hb2
          go_wp2
          go_ret
          exact ⟨rfl, B3.out⟩
    · have E := YY.out h6 (fun i hi => ALL.out i (by omega))
      subst E
      go_wp2
      go_ret
      exact ⟨rfl, BB.out⟩

end Go.Proofs.YtckphbmlmjlipaaDoor

namespace Go.Proofs.YtckphbmlmjlipaaDoor
open Go.RowKit

/-- WHAT THE PROGRAM's depth DOES, where m more may stand below. -/
def DepthI (m : Nat) : Prop := ∀ (n : Nat) (x : TV) (T : Tr) (lo hi : Int) (w : World), TreeAt n w x T →
    Calls Tryd.prog 57 #[placedV (kindN T) lo hi (7 - (m : Int)) x] w fun e w' => e = .returned (.int .i64 (depthF m T lo hi : Nat)) ∧ Below w.heap.size w w'

set_option maxHeartbeats 2000000 in
theorem depthByKids_of {m : Nat} (hm : m ≤ 6) (H : DepthI m) (n : Nat) (x : TV) (T : Tr) (kd lo hi : Int) (w : World) (ht : TreeAt (n + 1) w x T) (hk2 : 2 ≤ T.kids.length) (hk4 : T.kids.length ≤ 4) (hcl : T.cuts.length + 1 = T.kids.length) :
    Calls Tryd.prog 70 #[placedV kd lo hi (7 - ((m + 1 : Nat) : Int)) x] w fun e w' => e = .returned (.int .i64 (kidsD (kidF m T lo hi) T.kids.length : Nat)) ∧ Below w.heap.size w w' := by
  have KD : Hid (∀ (i : Nat) (w0 : World), i < T.kids.length → Below w.heap.size w w0 → Calls Tryd.prog 81 #[placedV kd lo hi (7 - ((m + 1 : Nat) : Int)) x, .int .i64 i] w0 fun e w' => ∃ y : TV, e = .returned (placedV (kindN (kidT T i)) (fromT T lo i) (toT T hi i) (7 - (m : Int)) y) ∧ TreeAt n w0 y (kidT T i) ∧ Below w0.heap.size w0 w') := by
    intro i w0 hik hb
    have := kid_any n x T kd lo hi (7 - ((m + 1 : Nat) : Int)) i w0 (ht.below hb) hik hcl hk4 (by omega) (by omega)
    rw [show (7 - ((m + 1 : Nat) : Int)) + 1 = 7 - (m : Int) by omega] at this
    exact this
  have DP : Hid (∀ (i : Nat) (y : TV) (w0 : World), TreeAt n w0 y (kidT T i) → Calls Tryd.prog 57 #[placedV (kindN (kidT T i)) (fromT T lo i) (toT T hi i) (7 - (m : Int)) y] w0 fun e w' => e = .returned (.int .i64 (kidF m T lo hi i : Nat)) ∧ Below w0.heap.size w0 w') := fun i y w0 h => H n y (kidT T i) _ _ w0 h
  obtain ⟨a1, a2, a3, a4, q1, q2, q3, q4, rfl⟩ := ht.shape
  have KL : Hid (∀ i, kidF m T lo hi i ≤ 7) := fun i => by have := depthF_le m (kidT T i) (fromT T lo i) (toT T hi i); show depthF m (kidT T i) (fromT T lo i) (toT T hi i) ≤ 7; omega
  have Z0 : Hid (∀ i, i < T.kids.length → kidF m T lo hi i = 0 → kidsD (kidF m T lo hi) T.kids.length = 0) := fun i h1 h2 => kidsD_zero h1 h2
  have Z1 : Hid (∀ i, i < T.kids.length → kidF m T lo hi i ≠ kidF m T lo hi 0 → kidsD (kidF m T lo hi) T.kids.length = 0) := fun i h1 h2 => kidsD_ne h1 h2
  have Y1 : Hid (kidF m T lo hi 0 ≠ 0 → (∀ i, i < T.kids.length → kidF m T lo hi i = kidF m T lo hi 0) → kidsD (kidF m T lo hi) T.kids.length = kidF m T lo hi 0 + 1) := kidsD_yes
  generalize kidsD (kidF m T lo hi) T.kids.length = R at *
  generalize kidF m T lo hi = f at *
  clear ht H
  generalize T.pairs.length = n1 at *
  generalize T.cuts.length = n2 at *
  generalize T.kids.length = n3 at *
  generalize T.buf.length = n4 at *
  have ABL : Hid ((7 - ((m + 1 : Nat) : Int)) = (7 - ((m + 1 : Nat) : Int))) := rfl
  clear ABL
  generalize (7 - ((m + 1 : Nat) : Int)) = ab at *
  generalize (7 - (m : Int)) = ab1 at *
  show Calls Tryd.prog 70 #[.agg #[.int .i64 kd, .int .i64 lo, .int .i64 hi, .int .i64 ab, .bool T.leaf, .slice a1 n1 q1, .slice a2 n2 q2, .slice a3 n3 q3, .slice a4 n4 q4]] w _
  have B0 : Hid _ := bel_new w (.cells #[.int .i64 kd, .int .i64 lo, .int .i64 hi, .int .i64 ab, .bool T.leaf, .slice a1 n1 q1, .slice a2 n2 q2, .slice a3 n3 q3, .slice a4 n4 q4] 97)
  have S0 : Hid (BoxAt 97 _ w.heap.size _) := BoxAt.start 97 w #[.int .i64 kd, .int .i64 lo, .int .i64 hi, .int .i64 ab, .bool T.leaf, .slice a1 n1 q1, .slice a2 n2 q2, .slice a3 n3 q3, .slice a4 n4 q4]
  go_enter Tryd.func70, Tryd.ntmps70
  go_wp2_with fail
  refine Calls.mono (KD.out 0 _ (by omega) B0.out) ?_
  rintro e w1 ⟨y, rfl, ty, hb1⟩
  have B1 : Hid (Below w.heap.size w w1) := Below.and B0.out hb1
  have S1 : Hid (BoxAt 97 w1 w.heap.size #[.int .i64 kd, .int .i64 lo, .int .i64 hi, .int .i64 ab, .bool T.leaf, .slice a1 n1 q1, .slice a2 n2 q2, .slice a3 n3 q3, .slice a4 n4 q4]) := S0.out.step hb1
  have TY : Hid (TreeAt n w1 y (kidT T 0)) := ty.below hb1
  clear B0 S0 hb1 ty
  go_wp2_with fail
  refine Calls.mono (DP.out 0 y w1 TY.out) ?_
  rintro e w2 ⟨rfl, hb2⟩
  have B2 : Hid (Below w.heap.size w w2) := Below.and B1.out hb2
  have S2 : Hid (BoxAt 97 w2 w.heap.size #[.int .i64 kd, .int .i64 lo, .int .i64 hi, .int .i64 ab, .bool T.leaf, .slice a1 n1 q1, .slice a2 n2 q2, .slice a3 n3 q3, .slice a4 n4 q4]) := S1.out.step hb2
  have k0 := S2.out.cells
  have hf0 := KL.out 0
  clear B1 S1 hb2 TY
  by_cases hz : f 0 = 0
  · have E := Z0.out 0 (by omega) hz
    subst E
    rw [hz]
    go_wp2
    go_ret
    exact ⟨rfl, B2.out⟩
  have hz1 : ((f 0 : Int) == 0) = false := by rw [beq_eq_false_iff_ne]; omega
  have HZ : Hid (f 0 ≠ 0) := hz
  go_wp2
  go_loopw [4] (fun i wr => ∃ k' : Nat, 1 ≤ k' ∧ k' ≤ n3 ∧ i = .int .i64 k' ∧ Hid (∀ i, i < k' → f i = f 0) ∧ Hid (Below w.heap.size w wr) ∧ Hid (BoxAt 97 wr w.heap.size #[.int .i64 kd, .int .i64 lo, .int .i64 hi, .int .i64 ab, .bool T.leaf, .slice a1 n1 q1, .slice a2 n2 q2, .slice a3 n3 q3, .slice a4 n4 q4]))
    (fun i _ => n3 - (intOf i).toNat)
  case atStart => exact ⟨1, by omega, by omega, rfl, fun i hi => by rw [show i = 0 by omega], B2, S2⟩
  case round =>
    clear B2 S2 k0
    obtain ⟨k', hk1, hkl, rfl, ALL, BB, SS⟩ := hrel
    have k0 := SS.out.cells
    by_cases hlt : k' < n3
    · have hfk := KL.out k'
      go_wp2_with fail
      refine Calls.mono (KD.out k' _ hlt BB.out) ?_
      rintro e w3 ⟨y3, rfl, ty3, hb3⟩
      have B3 : Hid (Below w.heap.size w w3) := Below.and BB.out hb3
      have S3 : Hid (BoxAt 97 w3 w.heap.size #[.int .i64 kd, .int .i64 lo, .int .i64 hi, .int .i64 ab, .bool T.leaf, .slice a1 n1 q1, .slice a2 n2 q2, .slice a3 n3 q3, .slice a4 n4 q4]) := SS.out.step hb3
      have TY : Hid (TreeAt n w3 y3 (kidT T k')) := ty3.below hb3
      clear hb3 ty3
      go_wp2_with fail
      refine Calls.mono (DP.out k' y3 w3 TY.out) ?_
      rintro e w4 ⟨rfl, hb4⟩
      have B4 : Hid (Below w.heap.size w w4) := Below.and B3.out hb4
      have S4 : Hid (BoxAt 97 w4 w.heap.size #[.int .i64 kd, .int .i64 lo, .int .i64 hi, .int .i64 ab, .bool T.leaf, .slice a1 n1 q1, .slice a2 n2 q2, .slice a3 n3 q3, .slice a4 n4 q4]) := S3.out.step hb4
      clear hb4 TY S3 B3
      by_cases he : f k' = f 0
      · have he1 : ((f k' : Int) != (f 0 : Int)) = false := by rw [bne_eq_false_iff_eq]; omega
        have HE : Hid (f k' = f 0) := he
        clear he
        go_wp2
        go_roundw
        case rel => exact ⟨k' + 1, by omega, by omega, by go_num, fun i hi => if h : i < k' then ALL.out i h else by rw [show i = k' by omega]; exact HE.out, B4, S4⟩
        case measure => simp [intOf]; omega
      · have he1 : ((f k' : Int) != (f 0 : Int)) = true := by rw [bne_iff_ne]; omega
        have E := Z1.out k' hlt he
        subst E
        go_wp2
        go_ret
        exact ⟨rfl, B4.out⟩
    · have E := Y1.out HZ.out (fun i hi => ALL.out i (by omega))
      subst E
      go_wp2
      go_ret
      exact ⟨ret_int (by omega), BB.out⟩

theorem leaf_pairs {T : Tr} {lo hi : Int} (hb : T.cuts.length = 0 ∧ T.kids.length = 0 ∧ T.buf.length = 0) : leafOkB T lo hi = pairsOkB T lo hi := by
  rw [leafOkB, pairsOkB, decide_eq_true (p := T.cuts.length + T.kids.length + T.buf.length = 0) (by omega)]
  cases mapOkB T.pairs <;> cases decide (T.pairs.length ≤ 4) <;> rfl
theorem fork_parts {T : Tr} {lo hi : Int} (hb : T.pairs.length = 0) : forkOkB T lo hi = (cutsOk2B T lo hi && bufOk2B T lo hi) := by
  rw [forkOkB, shapeB, cutsOk2B, bufOk2B, decide_eq_true hb]
  cases decide (2 ≤ T.kids.length ∧ T.kids.length ≤ 4) <;> cases decide (T.cuts.length + 1 = T.kids.length) <;> cases decide (T.buf.length ≤ 6) <;> cases bufOkB T lo hi <;> cases cutsOkB T lo hi <;> rfl
theorem cutsOk2_shape {T : Tr} {lo hi : Int} (h : cutsOk2B T lo hi = true) : (2 ≤ T.kids.length ∧ T.kids.length ≤ 4) ∧ T.cuts.length + 1 = T.kids.length := by
  rw [cutsOk2B] at h
  simp only [Bool.and_eq_true, decide_eq_true_eq] at h
  exact ⟨h.1, h.2.1⟩

set_option maxHeartbeats 2000000 in
theorem depth_of {m : Nat} (hm : m ≤ 6) (H : DepthI m) : DepthI (m + 1) := by
  intro n x T lo hi w ht
  cases n with
  | zero => exact ht.elim
  | succ n =>
  have PO : Hid (∀ w0, Below w.heap.size w w0 → Calls Tryd.prog 67 #[placedV (kindN T) lo hi (7 - ((m + 1 : Nat) : Int)) x] w0 fun e w' => e = .returned (.bool (pairsOkB T lo hi)) ∧ Below w0.heap.size w0 w') := fun w0 hb => pairsOk_any (n + 1) x T _ lo hi _ w0 (ht.below hb)
  have CO : Hid (∀ w0, Below w.heap.size w w0 → Calls Tryd.prog 68 #[placedV (kindN T) lo hi (7 - ((m + 1 : Nat) : Int)) x] w0 fun e w' => e = .returned (.bool (cutsOk2B T lo hi)) ∧ Below w0.heap.size w0 w') := fun w0 hb => cutsOk_any (n + 1) x T _ lo hi _ w0 (ht.below hb)
  have BO : Hid (∀ w0, Below w.heap.size w w0 → Calls Tryd.prog 69 #[placedV (kindN T) lo hi (7 - ((m + 1 : Nat) : Int)) x] w0 fun e w' => e = .returned (.bool (bufOk2B T lo hi)) ∧ Below w0.heap.size w0 w') := fun w0 hb => bufOk_any (n + 1) x T _ lo hi _ w0 (ht.below hb)
  have DK : Hid (∀ w0, Below w.heap.size w w0 → cutsOk2B T lo hi = true → Calls Tryd.prog 70 #[placedV (kindN T) lo hi (7 - ((m + 1 : Nat) : Int)) x] w0 fun e w' => e = .returned (.int .i64 (kidsD (kidF m T lo hi) T.kids.length : Nat)) ∧ Below w0.heap.size w0 w') := fun w0 hb hc => depthByKids_of hm H n x T _ lo hi w0 (ht.below hb) (cutsOk2_shape hc).1.1 (cutsOk2_shape hc).1.2 (cutsOk2_shape hc).2
  have hab : ¬ (7 ≤ 7 - ((m + 1 : Nat) : Int)) := by omega
  have hab1 : decide (7 ≤ 7 - ((m + 1 : Nat) : Int)) = false := decide_eq_false hab
  have TD : Hid (∀ kd w0, Calls Tryd.prog 66 #[placeV kd lo hi (7 - ((m + 1 : Nat) : Int))] w0 fun e w' => e = .returned (.bool false) ∧ Below w0.heap.size w0 w') := fun kd w0 => by
    have := tooDeep_any kd lo hi (7 - ((m + 1 : Nat) : Int)) w0
    rw [hab1] at this
    exact this
  clear hab hab1
  have D1 : Hid (T.leaf = true → depthF (m + 1) T lo hi = if leafOkB T lo hi = true then 1 else 0) := depthF_leaf
  have D2 : Hid (T.leaf = false → forkOkB T lo hi = false → depthF (m + 1) T lo hi = 0) := depthF_no
  have D3 : Hid (T.leaf = false → forkOkB T lo hi = true → depthF (m + 1) T lo hi = kidsD (kidF m T lo hi) T.kids.length) := depthF_fork
  generalize depthF (m + 1) T lo hi = R at *
  generalize (7 - ((m + 1 : Nat) : Int)) = ab at *
  obtain ⟨lf, p, c, k, b⟩ := x
  have B0 : Hid _ := bel_new w (.cells #[.int .i64 (kindN T), .int .i64 lo, .int .i64 hi, .int .i64 ab, .bool lf, p, c, k, b] 97)
  have S0 : Hid (BoxAt 97 _ w.heap.size _) := BoxAt.start 97 w #[.int .i64 (kindN T), .int .i64 lo, .int .i64 hi, .int .i64 ab, .bool lf, p, c, k, b]
  show Calls Tryd.prog 57 #[.agg #[.int .i64 (kindN T), .int .i64 lo, .int .i64 hi, .int .i64 ab, .bool lf, p, c, k, b]] w _
  have K : (T.leaf = true ∧ (T.cuts.length = 0 ∧ T.kids.length = 0 ∧ T.buf.length = 0) ∧ kindN T = 1) ∨ (T.leaf = true ∧ ¬ (T.cuts.length = 0 ∧ T.kids.length = 0 ∧ T.buf.length = 0) ∧ kindN T = 0) ∨ (T.leaf = false ∧ T.pairs.length = 0 ∧ kindN T = 2) ∨ (T.leaf = false ∧ ¬ T.pairs.length = 0 ∧ kindN T = 0) := by
    cases hlf : T.leaf
    · by_cases hp : T.pairs.length = 0
      · exact Or.inr (Or.inr (Or.inl ⟨rfl, hp, kindN_fork hlf hp⟩))
      · exact Or.inr (Or.inr (Or.inr ⟨rfl, hp, kindN_fork_no hlf hp⟩))
    · by_cases hp : T.cuts.length = 0 ∧ T.kids.length = 0 ∧ T.buf.length = 0
      · exact Or.inl ⟨rfl, hp, kindN_leaf hlf hp⟩
      · exact Or.inr (Or.inl ⟨rfl, hp, kindN_leaf_no hlf hp⟩)
  clear ht H
  rcases K with ⟨hlf, hb, hkd⟩ | ⟨hlf, hb, hkd⟩ | ⟨hlf, hb, hkd⟩ | ⟨hlf, hb, hkd⟩
  · have E := D1.out hlf
    rw [leaf_pairs hb] at E
    rw [hkd] at PO B0 S0 ⊢
    clear D1 D2 D3 CO BO DK hb hlf hkd
    generalize pairsOkB T lo hi = PB at *
    cases PB with
    | false =>
      simp only [Bool.false_eq_true, if_false] at E
      subst E
      go_enter Tryd.func57, Tryd.ntmps57
      go_wp2_with fail
      refine Calls.mono (TD.out _ _) ?_
      rintro e w1 ⟨rfl, hb1⟩
      have B1 : Hid (Below w.heap.size w w1) := Below.and B0.out hb1
      have S1 : Hid (BoxAt 97 w1 w.heap.size _) := S0.out.step hb1
      have k0 := S1.out.cells
      clear hb1
      go_wp2_with fail
      refine Calls.mono (PO.out _ B1.out) ?_
      rintro e w2 ⟨rfl, hb2⟩
      have B2 : Hid (Below w.heap.size w w2) := Below.and B1.out hb2
      have j0 := (S1.out.step hb2).cells
      clear hb2
      go_wp2
      go_ret
      exact ⟨rfl, B2.out⟩
    | true =>
      simp only [if_true] at E
      subst E
      go_enter Tryd.func57, Tryd.ntmps57
      go_wp2_with fail
      refine Calls.mono (TD.out _ _) ?_
      rintro e w1 ⟨rfl, hb1⟩
      have B1 : Hid (Below w.heap.size w w1) := Below.and B0.out hb1
      have S1 : Hid (BoxAt 97 w1 w.heap.size _) := S0.out.step hb1
      have k0 := S1.out.cells
      clear hb1
      go_wp2_with fail
      refine Calls.mono (PO.out _ B1.out) ?_
      rintro e w2 ⟨rfl, hb2⟩
      have B2 : Hid (Below w.heap.size w w2) := Below.and B1.out hb2
      have j0 := (S1.out.step hb2).cells
      clear hb2
      go_wp2
      go_ret
      exact ⟨rfl, B2.out⟩
  · have E := D1.out hlf
    rw [leaf_no3 (by omega)] at E
    simp only [Bool.false_eq_true, if_false] at E
    subst E
    rw [hkd] at B0 S0 ⊢
    clear D1 D2 D3 PO CO BO DK hb hlf hkd
    go_enter Tryd.func57, Tryd.ntmps57
    go_wp2_with fail
    refine Calls.mono (TD.out _ _) ?_
    rintro e w1 ⟨rfl, hb1⟩
    have B1 : Hid (Below w.heap.size w w1) := Below.and B0.out hb1
    have S1 : Hid (BoxAt 97 w1 w.heap.size _) := S0.out.step hb1
    have k0 := S1.out.cells
    clear hb1
    go_wp2
    go_ret
    exact ⟨rfl, B1.out⟩
  · have E2 := D2.out hlf
    have E3 := D3.out hlf
    rw [fork_parts hb] at E2 E3
    rw [hkd] at CO BO DK B0 S0 ⊢
    clear D1 D2 D3 PO hb hlf hkd
    generalize kidsD (kidF m T lo hi) T.kids.length = Q at *
    generalize cutsOk2B T lo hi = CB at *
    generalize bufOk2B T lo hi = BB at *
    cases CB with
    | false =>
      have E := E2 rfl
      subst E
      clear E2 E3
      go_enter Tryd.func57, Tryd.ntmps57
      go_wp2_with fail
      refine Calls.mono (TD.out _ _) ?_
      rintro e w1 ⟨rfl, hb1⟩
      have B1 : Hid (Below w.heap.size w w1) := Below.and B0.out hb1
      have S1 : Hid (BoxAt 97 w1 w.heap.size _) := S0.out.step hb1
      have k0 := S1.out.cells
      clear hb1
      go_wp2_with fail
      refine Calls.mono (CO.out _ B1.out) ?_
      rintro e w2 ⟨rfl, hb2⟩
      have B2 : Hid (Below w.heap.size w w2) := Below.and B1.out hb2
      have j0 := (S1.out.step hb2).cells
      clear hb2
      go_wp2
      go_ret
      exact ⟨rfl, B2.out⟩
    | true =>
      cases BB with
      | false =>
        have E := E2 rfl
        subst E
        clear E2 E3
        go_enter Tryd.func57, Tryd.ntmps57
        go_wp2_with fail
        refine Calls.mono (TD.out _ _) ?_
        rintro e w1 ⟨rfl, hb1⟩
        have B1 : Hid (Below w.heap.size w w1) := Below.and B0.out hb1
        have S1 : Hid (BoxAt 97 w1 w.heap.size _) := S0.out.step hb1
        have k0 := S1.out.cells
        clear hb1
        go_wp2_with fail
        refine Calls.mono (CO.out _ B1.out) ?_
        rintro e w2 ⟨rfl, hb2⟩
        have B2 : Hid (Below w.heap.size w w2) := Below.and B1.out hb2
        have j0 := (S1.out.step hb2).cells
        clear hb2
        go_wp2_with fail
        refine Calls.mono (BO.out _ B2.out) ?_
        rintro e w3 ⟨rfl, hb3⟩
        have B3 : Hid (Below w.heap.size w w3) := Below.and B2.out hb3
        clear hb3
        go_wp2
        go_ret
        exact ⟨rfl, B3.out⟩
      | true =>
        have E := E3 rfl
        subst E
        clear E2 E3
        go_enter Tryd.func57, Tryd.ntmps57
        go_wp2_with fail
        refine Calls.mono (TD.out _ _) ?_
        rintro e w1 ⟨rfl, hb1⟩
        have B1 : Hid (Below w.heap.size w w1) := Below.and B0.out hb1
        have S1 : Hid (BoxAt 97 w1 w.heap.size _) := S0.out.step hb1
        have k0 := S1.out.cells
        clear hb1
        go_wp2_with fail
        refine Calls.mono (CO.out _ B1.out) ?_
        rintro e w2 ⟨rfl, hb2⟩
        have B2 : Hid (Below w.heap.size w w2) := Below.and B1.out hb2
        have S2 : Hid (BoxAt 97 w2 w.heap.size _) := S1.out.step hb2
        have j0 := S2.out.cells
        clear hb2
        go_wp2_with fail
        refine Calls.mono (BO.out _ B2.out) ?_
        rintro e w3 ⟨rfl, hb3⟩
        have B3 : Hid (Below w.heap.size w w3) := Below.and B2.out hb3
        have i0 := (S2.out.step hb3).cells
        clear hb3
        go_wp2_with fail
        refine Calls.mono (DK.out _ B3.out trivial) ?_
        rintro e w4 ⟨rfl, hb4⟩
        have B4 : Hid (Below w.heap.size w w4) := Below.and B3.out hb4
        clear hb4
        go_wp2
        go_ret
        exact ⟨rfl, B4.out⟩
  · have E := D2.out hlf (fork_no_shape (shape_no1 hb))
    subst E
    rw [hkd] at B0 S0 ⊢
    clear D1 D2 D3 PO CO BO DK hb hlf hkd
    go_enter Tryd.func57, Tryd.ntmps57
    go_wp2_with fail
    refine Calls.mono (TD.out _ _) ?_
    rintro e w1 ⟨rfl, hb1⟩
    have B1 : Hid (Below w.heap.size w w1) := Below.and B0.out hb1
    have S1 : Hid (BoxAt 97 w1 w.heap.size _) := S0.out.step hb1
    have k0 := S1.out.cells
    clear hb1
    go_wp2
    go_ret
    exact ⟨rfl, B1.out⟩

set_option maxHeartbeats 400000 in
theorem depth_zero : DepthI 0 := by
  intro n x T lo hi w ht
  have E : depthF 0 T lo hi = 0 := rfl
  rw [E]
  have TD : Hid (∀ kd w0, Calls Tryd.prog 66 #[placeV kd lo hi 7] w0 fun e w' => e = .returned (.bool true) ∧ Below w0.heap.size w0 w') := fun kd w0 => tooDeep_any kd lo hi 7 w0
  obtain ⟨lf, p, c, k, b⟩ := x
  have B0 : Hid _ := bel_new w (.cells #[.int .i64 (kindN T), .int .i64 lo, .int .i64 hi, .int .i64 7, .bool lf, p, c, k, b] 97)
  show Calls Tryd.prog 57 #[.agg #[.int .i64 (kindN T), .int .i64 lo, .int .i64 hi, .int .i64 7, .bool lf, p, c, k, b]] w _
  clear ht
  go_enter Tryd.func57, Tryd.ntmps57
  go_wp2_with fail
  refine Calls.mono (TD.out _ _) ?_
  rintro e w1 ⟨rfl, hb1⟩
  have B1 : Hid (Below w.heap.size w w1) := Below.and B0.out hb1
  clear hb1
  go_wp2
  go_ret
  exact ⟨rfl, B1.out⟩

theorem depth_any : ∀ m, m ≤ 7 → DepthI m
  | 0, _ => depth_zero
  | m + 1, h => depth_of (by omega) (depth_any m (by omega))

end Go.Proofs.YtckphbmlmjlipaaDoor

namespace Go.Proofs.YtckphbmlmjlipaaDoor
open Go.RowKit

set_option maxHeartbeats 400000 in
theorem implTreeDepth_any (n : Nat) (x : TV) (T : Tr) (w : World) (ht : TreeAt n w x T) :
    Calls Tryd.prog 47 #[x.val] w fun e w' => e = .returned (.int .i64 (depthT T : Nat)) ∧ Below w.heap.size w w' := by
  have TT : Hid (TreeAt n w x T) := ht
  clear ht
  obtain ⟨lf, p, c, k, b⟩ := x
  have B0 : Hid _ := bel_box w #[.bool lf, p, c, k, b]
  have HR : Hid (∀ w0, Below w.heap.size w w0 → Calls Tryd.prog 56 #[.agg #[.bool lf, p, c, k, b]] w0 fun e w' => e = .returned (.agg #[.int .i64 (kindN T), .int .i64 0, .int .i64 1000, .int .i64 0, .bool lf, p, c, k, b]) ∧ Below w0.heap.size w0 w') := fun w0 hb => rootOf_any n ⟨lf, p, c, k, b⟩ T w0 (TT.out.below hb)
  have HD : Hid (∀ w0, Below w.heap.size w w0 → Calls Tryd.prog 57 #[.agg #[.int .i64 (kindN T), .int .i64 0, .int .i64 1000, .int .i64 0, .bool lf, p, c, k, b]] w0 fun e w' => e = .returned (.int .i64 (depthT T : Nat)) ∧ Below w0.heap.size w0 w') := fun w0 hb => depth_any 7 (by omega) n ⟨lf, p, c, k, b⟩ T 0 1000 w0 (TT.out.below hb)
  generalize depthT T = d at *
  generalize kindN T = kn at *
  show Calls Tryd.prog 47 #[.agg #[.bool lf, p, c, k, b]] w _
  go_enter Tryd.func47, Tryd.ntmps47
  go_wp2_with fail
  refine Calls.mono (HR.out _ B0.out) ?_
  rintro e w1 ⟨rfl, hb1⟩
  have B1 : Hid (Below w.heap.size w w1) := Below.and B0.out hb1
  clear hb1 B0
  go_wp2_with fail
  refine Calls.mono (HD.out _ B1.out) ?_
  rintro e w2 ⟨rfl, hb2⟩
  have B2 : Hid (Below w.heap.size w w2) := Below.and B1.out hb2
  clear hb2 B1
  go_wp2
  go_ret
  exact ⟨rfl, B2.out⟩

set_option maxHeartbeats 400000 in
theorem implTreeOk_any (n : Nat) (x : TV) (T : Tr) (w : World) (ht : TreeAt n w x T) :
    Calls Tryd.prog 25 #[x.val] w fun e w' => e = .returned (.bool (okT T)) ∧ Below w.heap.size w w' := by
  have TT : Hid (TreeAt n w x T) := ht
  clear ht
  obtain ⟨lf, p, c, k, b⟩ := x
  have B0 : Hid _ := bel_box w #[.bool lf, p, c, k, b]
  have HC := implTreeDepth_any n ⟨lf, p, c, k, b⟩ T _ (TT.out.below B0.out)
  have HC' : Hid _ := HC
  clear HC
  show Calls Tryd.prog 25 #[.agg #[.bool lf, p, c, k, b]] w _
  unfold okT
  generalize depthT T = d at *
  go_enter Tryd.func25, Tryd.ntmps25
  go_wp2_with fail
  refine Calls.mono HC'.out ?_
  rintro e w1 ⟨rfl, hb1⟩
  have B1 : Hid (Below w.heap.size w w1) := Below.and B0.out hb1
  clear hb1 B0
  go_wp2
  go_ret
  exact ⟨rfl, B1.out⟩

end Go.Proofs.YtckphbmlmjlipaaDoor
