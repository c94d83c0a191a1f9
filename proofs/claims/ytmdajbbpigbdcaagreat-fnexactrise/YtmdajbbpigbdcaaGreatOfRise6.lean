/-
  Contracts of the program's chapter 2: pairsOk, cutsOk, bufOk.
  Contracts of the program's chapter 2: bufOk.
-/
import Derived.Test.YtmdajbbpigbdcaaGreatOfRise5
namespace Go.Proofs.YtmdajbbpigbdcaaGreat
set_option maxRecDepth 100000
set_option maxHeartbeats 8000000
section
open Go.RowKit

def pairsOkB (T : Tr) (lo hi : Int) : Bool := decide (T.pairs.length ≤ 4) && (mapOkB T.pairs && pairsInB T lo hi)
theorem pairsOk_no1 {T : Tr} {lo hi : Int} (h : ¬ T.pairs.length ≤ 4) : pairsOkB T lo hi = false := by rw [pairsOkB, decide_eq_false h]; rfl
theorem pairsOk_no2 {T : Tr} {lo hi : Int} (h : mapOkB T.pairs = false) : pairsOkB T lo hi = false := by rw [pairsOkB, h]; simp
theorem pairsOk_no3 {T : Tr} {lo hi : Int} {i : Nat} (hi' : i < T.pairs.length) (h : pairAt T lo hi i = false) : pairsOkB T lo hi = false := by rw [pairsOkB, pairsInB, allB_false hi' h]; simp
theorem pairsOk_yes {T : Tr} {lo hi : Int} (h1 : T.pairs.length ≤ 4) (h2 : mapOkB T.pairs = true) (h3 : ∀ i, i < T.pairs.length → pairAt T lo hi i = true) : pairsOkB T lo hi = true := by
 rw [pairsOkB, decide_eq_true h1, h2, pairsInB, allB_true h3]; rfl

theorem pairsOk_any (n : Nat) (x : TV) (T : Tr) (kd lo hi ab : Int) (w : World) (ht : TreeAt n w x T) :
  Calls Tryz.prog 149 #[placedV kd lo hi ab x] w fun e w' => e = .returned (.bool (pairsOkB T lo hi)) ∧ Below w.heap.size w w' := by
 cases n with
 | zero => exact ht.elim
 | succ n =>
 obtain ⟨lf, p, c, k, b⟩ := x
 obtain ⟨-, hp, -, -, -⟩ := ht.parts
 simp only at hp
 obtain ⟨a, bb, off, cap, rfl, hcap, hmax, ha, ck, cv⟩ := hp.pairs
 have R1 := hid (hp)
 unfold maxLen at hmax
 clear ht hp
 have N1 : Hid (¬ T.pairs.length ≤ 4 → pairsOkB T lo hi = false) := pairsOk_no1
 have N2 : Hid (mapOkB T.pairs = false → pairsOkB T lo hi = false) := pairsOk_no2
 have N3 : Hid (∀ i, i < T.pairs.length → pairAt T lo hi i = false → pairsOkB T lo hi = false) := fun i => pairsOk_no3
 have YY : Hid (T.pairs.length ≤ 4 → mapOkB T.pairs = true → (∀ i, i < T.pairs.length → pairAt T lo hi i = true) → pairsOkB T lo hi = true) := pairsOk_yes
 generalize pairsOkB T lo hi = R at *
 have PA : Hid (∀ i, pairAt T lo hi i = inB (kOf T.pairs i) lo (hi - 1)) := fun i => rfl
 have MO := hid (fun w1 (hb : Below w.heap.size w w1) => implMapOk_any _ T.pairs w1 (R1.out.below hb))
 generalize mapOkB T.pairs = MB at *
 clear R1
 generalize T.pairs.length = n1 at *
 show Calls Tryz.prog 149 #[.agg #[.int .i64 kd, .int .i64 lo, .int .i64 hi, .int .i64 ab, .bool lf, .slice a n1 cap, c, k, b]] w _
 have B0 : Hid _ := bel_new w (.cells #[.int .i64 kd, .int .i64 lo, .int .i64 hi, .int .i64 ab, .bool lf, .slice a n1 cap, c, k, b] 180)
 have S0 := hid (BoxAt.start 180 w #[.int .i64 kd, .int .i64 lo, .int .i64 hi, .int .i64 ab, .bool lf, .slice a n1 cap, c, k, b])
 by_cases h4 : n1 ≤ 4
 case neg =>
  have E := N1.out h4
  subst E
  have h4' : (4 : Int) < (n1 : Int) := by omega
  clear N1 N2 N3 YY PA MO ck cv ha S0
  go_enter Tryz.func149, Tryz.ntmps149
  go_wp2
  go_ret
  exact ⟨rfl, B0.out⟩
 case pos =>
 have h4' : ¬ (4 : Int) < (n1 : Int) := by omega
 cases MB with
 | false =>
  have E := N2.out rfl
  subst E
  clear N1 N2 N3 YY PA ck cv ha S0
  go_enter Tryz.func149, Tryz.ntmps149
  go_wp2_with fail
  refine Calls.mono (MO.out _ B0.out) ?_
  rintro e w1 ⟨rfl, hb1⟩
  have B1 := hid (Below.and B0.out hb1)
  clear hb1
  go_wp2
  go_ret
  exact ⟨rfl, B1.out⟩
 | true =>
  have CK := hid (ck)
  have CV := hid (cv)
  have A1 := hid (ha)
  clear ck cv ha
  go_enter Tryz.func149, Tryz.ntmps149
  go_wp2_with fail
  refine Calls.mono (MO.out _ B0.out) ?_
  rintro e w1 ⟨rfl, hb1⟩
  have B1 := hid (Below.and B0.out hb1)
  have S1 := hid (S0.out.step hb1)
  have k0 := S1.out.cells
  clear hb1 B0 S0
  go_wp2
  go_loopw [21] (fun i wr => ∃ k' : Nat, k' ≤ n1 ∧ i = .int .i64 k' ∧ Hid (∀ i, i < k' → pairAt T lo hi i = true) ∧ Hid (Below w.heap.size w wr) ∧ Hid (BoxAt 180 wr w.heap.size #[.int .i64 kd, .int .i64 lo, .int .i64 hi, .int .i64 ab, .bool lf, .slice a n1 cap, c, k, b]))
   (fun i _ => n1 - (intOf i).toNat)
  case atStart => exact ⟨0, Nat.zero_le _, rfl, fun i hi => absurd hi (Nat.not_lt_zero _), B1, S1⟩
  case round =>
   clear B1 S1 k0
   obtain ⟨k', hkl, rfl, ALL, BB, SS⟩ := hrel
   have k0 := SS.out.cells
   by_cases hlt : k' < n1
   ·have hal := A1.out (by omega)
    subst hal
    have d0 := (BB.out.cell (by exact cell_lt (CK.out k' hlt))).trans (CK.out k' hlt)
    have d1 := (BB.out.cell (by exact cell_lt (CV.out k' hlt))).trans (CV.out k' hlt)
    have hwb : w.heap.size < wr.heap.size := by
     have := (Array.getElem?_eq_some_iff.1 SS.out).1
     exact this
    have B2 := hid (fun o => BB.out.alloc (by omega) o)
    have S2 : Hid (∀ o, BoxAt 180 (wr.alloc o) w.heap.size _) := fun o => SS.out.step (bel_new _ _)
    have hwn : ¬ w.heap.size = wr.heap.size := by omega
    cases hq : inB (kOf T.pairs k') lo (hi - 1)
    ·have E := N3.out k' hlt hq
     subst E
     go_wp2_with fail
     refine (has_any _ _ _ _ _ _).mono ?_
     rintro e w2 ⟨he, hb2⟩
     rw [hq] at he
     subst he
     have B3 := hid (Below.and (B2.out _) hb2)
     clear hb2
     go_wp2
     go_ret
     exact ⟨rfl, B3.out⟩
    ·have OK := hid (hq)
     go_wp2_with fail
     refine (has_any _ _ _ _ _ _).mono ?_
     rintro e w2 ⟨he, hb2⟩
     rw [hq] at he
     subst he
     have B3 := hid (Below.and (B2.out _) hb2)
     have S3 := hid ((S2.out _).step hb2)
     clear hb2
     go_wp2
     go_roundw
     case rel => exact ⟨k' + 1, by omega, by go_num, fun i hi => if h : i < k' then ALL.out i h else by rw [show i = k' by omega]; exact OK.out, B3, S3⟩
     case measure => simp [intOf]; omega
   ·have E := YY.out h4 trivial (fun i hi => ALL.out i (by omega))
    subst E
    go_wp2
    go_ret
    exact ⟨rfl, BB.out⟩

def cutsOk2B (T : Tr) (lo hi : Int) : Bool := decide (2 ≤ T.kids.length ∧ T.kids.length ≤ 4) && (decide (T.cuts.length + 1 = T.kids.length) && cutsOkB T lo hi)
theorem cutsOk2_no1 {T : Tr} {lo hi : Int} (h : ¬ (2 ≤ T.kids.length ∧ T.kids.length ≤ 4)) : cutsOk2B T lo hi = false := by rw [cutsOk2B, decide_eq_false h]; rfl
theorem cutsOk2_no2 {T : Tr} {lo hi : Int} (h : ¬ T.cuts.length + 1 = T.kids.length) : cutsOk2B T lo hi = false := by rw [cutsOk2B, decide_eq_false h]; simp
theorem cutsOk2_no3 {T : Tr} {lo hi : Int} {i : Nat} (hi' : i < T.cuts.length) (h : cutAt T lo hi i = false) : cutsOk2B T lo hi = false := by rw [cutsOk2B, cutsOkB, allB_false hi' h]; simp
theorem cutsOk2_yes {T : Tr} {lo hi : Int} (h1 : 2 ≤ T.kids.length ∧ T.kids.length ≤ 4) (h2 : T.cuts.length + 1 = T.kids.length) (h3 : ∀ i, i < T.cuts.length → cutAt T lo hi i = true) : cutsOk2B T lo hi = true := by
 rw [cutsOk2B, decide_eq_true h1, decide_eq_true h2, cutsOkB, allB_true h3]; rfl
theorem cutAt_succ (T : Tr) (lo hi : Int) (k : Nat) : cutAt T lo hi (k + 1) = inB (iAt T.cuts (k + 1)) (iAt T.cuts k + 1) (hi - 1) := rfl

theorem cutsOk_any (n : Nat) (x : TV) (T : Tr) (kd lo hi ab : Int) (w : World) (ht : TreeAt n w x T) :
  Calls Tryz.prog 150 #[placedV kd lo hi ab x] w fun e w' => e = .returned (.bool (cutsOk2B T lo hi)) ∧ Below w.heap.size w w' := by
 cases n with
 | zero => exact ht.elim
 | succ n =>
 obtain ⟨lf, p, c, k, b⟩ := x
 obtain ⟨-, -, hc, -, hk⟩ := ht.parts
 simp only at hc hk
 obtain ⟨a2, b2, off2, q2, rfl, hcap2, hmax2, ha2, cc⟩ := hc.ints
 obtain ⟨a3, q3, rfl, m3⟩ := hk.len
 unfold maxLen at hmax2 m3
 clear ht hc hk
 have N1 : Hid (¬ (2 ≤ T.kids.length ∧ T.kids.length ≤ 4) → cutsOk2B T lo hi = false) := cutsOk2_no1
 have N2 : Hid (¬ T.cuts.length + 1 = T.kids.length → cutsOk2B T lo hi = false) := cutsOk2_no2
 have N3 : Hid (∀ i, i < T.cuts.length → cutAt T lo hi i = false → cutsOk2B T lo hi = false) := fun i => cutsOk2_no3
 have YY : Hid ((2 ≤ T.kids.length ∧ T.kids.length ≤ 4) → T.cuts.length + 1 = T.kids.length → (∀ i, i < T.cuts.length → cutAt T lo hi i = true) → cutsOk2B T lo hi = true) := cutsOk2_yes
 generalize cutsOk2B T lo hi = R at *
 generalize T.cuts.length = n2 at *
 generalize T.kids.length = n3 at *
 show Calls Tryz.prog 150 #[.agg #[.int .i64 kd, .int .i64 lo, .int .i64 hi, .int .i64 ab, .bool lf, p, .slice a2 n2 q2, .slice a3 n3 q3, b]] w _
 have B0 : Hid _ := bel_new w (.cells #[.int .i64 kd, .int .i64 lo, .int .i64 hi, .int .i64 ab, .bool lf, p, .slice a2 n2 q2, .slice a3 n3 q3, b] 180)
 have S0 := hid (BoxAt.start 180 w #[.int .i64 kd, .int .i64 lo, .int .i64 hi, .int .i64 ab, .bool lf, p, .slice a2 n2 q2, .slice a3 n3 q3, b])
 have CC := hid (cc)
 have A2 := hid (ha2)
 clear cc ha2
 by_cases hlo : n3 < 2
 ·have E := N1.out (by omega)
  subst E
  have h2 : (n3 : Int) < 2 := by omega
  clear N1 N2 N3 YY CC A2 S0
  go_enter Tryz.func150, Tryz.ntmps150
  go_wp2_with fail
  go_quiet (fail)
  go_wp2
  go_ret
  exact ⟨rfl, below_drewN B0.out _⟩
 by_cases hhi : 4 < n3
 ·have E := N1.out (by omega)
  subst E
  have h2 : ¬ (n3 : Int) < 2 := by omega
  have h4 : (4 : Int) < (n3 : Int) := by omega
  clear N1 N2 N3 YY CC A2 S0
  go_enter Tryz.func150, Tryz.ntmps150
  go_wp2_with fail
  go_quiet (fail)
  go_wp2
  go_ret
  exact ⟨rfl, below_drewN B0.out _⟩
 have h2 : ¬ (n3 : Int) < 2 := by omega
 have h4 : ¬ (4 : Int) < (n3 : Int) := by omega
 by_cases hcl : n2 + 1 = n3
 case neg =>
  have E := N2.out hcl
  subst E
  have hc1 : ((n2 : Int) != (n3 : Int) - 1) = true := by rw [bne_iff_ne]; omega
  clear N1 N2 N3 YY CC A2 S0 hcl
  go_enter Tryz.func150, Tryz.ntmps150
  go_wp2_with fail
  go_quiet (fail)
  go_wp2
  go_ret
  exact ⟨rfl, below_drewN B0.out _⟩
 case pos =>
 have hc1 : ((n2 : Int) != (n3 : Int) - 1) = false := by rw [bne_eq_false_iff_eq]; omega
 have YY2 := hid (YY.out ⟨by omega, by omega⟩ hcl)
 clear N1 N2 YY hcl
 go_enter Tryz.func150, Tryz.ntmps150
 go_wp2_with fail
 go_quiet (fail)
 go_wp2
 go_loopw [29] (fun i wr => ∃ k' : Nat, k' ≤ n2 ∧ i = .int .i64 k' ∧ Hid (∀ i, i < k' → cutAt T lo hi i = true ∧ lo < iAt T.cuts i) ∧ Hid (Below w.heap.size w wr) ∧ Hid (BoxAt 180 wr w.heap.size #[.int .i64 kd, .int .i64 lo, .int .i64 hi, .int .i64 ab, .bool lf, p, .slice a2 n2 q2, .slice a3 n3 q3, b]))
  (fun i _ => n2 - (intOf i).toNat)
 case atStart => exact ⟨0, Nat.zero_le _, rfl, fun i hi => absurd hi (Nat.not_lt_zero _), below_drewN B0.out _, S0.out.step (below_drewN (Below.refl _ _) _)⟩
 case round =>
  clear B0 S0
  obtain ⟨k', hkl, rfl, ALL, BB, SS⟩ := hrel
  have k0 := SS.out.cells
  by_cases hlt : k' < n2
  ·have hal := A2.out (by omega)
   subst hal
   have d0 := (BB.out.cell (by exact cell_lt (CC.out k' hlt))).trans (CC.out k' hlt)
   cases hs : inB (iAt T.cuts k') (lo + 1) (hi - 1)
   ·have E := N3.out k' hlt (by
     cases k' with
     | zero => exact hs
     | succ k' =>
      have h1 := (ALL.out k' (by omega)).2
      rw [cutAt_succ]
      cases hx : inB (iAt T.cuts (k' + 1)) (iAt T.cuts k' + 1) (hi - 1)
      ·rfl
      ·have h3 := inB_iff.1 hx
       rw [inB_true (by omega) (by omega)] at hs
       cases hs)
    subst E
    go_wp2_with fail
    refine (splits_any _ _ _ _ _ _).mono ?_
    rintro e w2 ⟨he, hb2⟩
    rw [hs] at he
    subst he
    have B3 := hid (Below.and BB.out hb2)
    clear hb2
    go_wp2
    go_ret
    exact ⟨rfl, B3.out⟩
   ·have hs2 := inB_iff.1 hs
    cases k' with
    | zero =>
     simp only [Nat.add_zero] at d0
     have OK : Hid (cutAt T lo hi 0 = true ∧ lo < iAt T.cuts 0) := ⟨hs, by omega⟩
     go_wp2_with fail
     refine (splits_any _ _ _ _ _ _).mono ?_
     rintro e w2 ⟨he, hb2⟩
     rw [hs] at he
     subst he
     have B3 := hid (Below.and BB.out hb2)
     have S3 := hid (SS.out.step hb2)
     clear hb2
     go_wp2
     go_roundw
     case rel => exact ⟨1, by omega, by go_num, fun i hi => by rw [show i = 0 by omega]; exact OK.out, B3, S3⟩
     case measure => simp [intOf]; omega
    | succ k' =>
     have hpos : (0 : Int) < ((k' + 1 : Nat) : Int) := by omega
     have hpos2 : 0 < k' + 1 := by omega
     have hwk : IntKind.i64.wrap (k' : Int) = (k' : Int) := by rw [IntKind.wrap_i64]; omega
     have hk2 : k' < n2 := by omega
     have d1 := (BB.out.cell (by exact cell_lt (CC.out k' hk2))).trans (CC.out k' hk2)
     by_cases ho : iAt T.cuts (k' + 1) ≤ iAt T.cuts k'
     ·have E := N3.out (k' + 1) hlt (by rw [cutAt_succ]; exact inB_false1 (by omega))
      subst E
      go_wp2_with fail
      refine (splits_any _ _ _ _ _ _).mono ?_
      rintro e w2 ⟨he, hb2⟩
      rw [hs] at he
      subst he
      have B3 := hid (Below.and BB.out hb2)
      have f1 := (hb2.cell (by exact cell_lt d1)).trans d1
      clear hb2
      go_wp2
      go_ret
      exact ⟨rfl, B3.out⟩
     ·have OK : Hid (cutAt T lo hi (k' + 1) = true ∧ lo < iAt T.cuts (k' + 1)) := ⟨by rw [cutAt_succ]; exact inB_true (by omega) (by omega), by omega⟩
      go_wp2_with fail
      refine (splits_any _ _ _ _ _ _).mono ?_
      rintro e w2 ⟨he, hb2⟩
      rw [hs] at he
      subst he
      have B3 := hid (Below.and BB.out hb2)
      have S3 := hid (SS.out.step hb2)
      have f1 := (hb2.cell (by exact cell_lt d1)).trans d1
      clear hb2
      go_wp2
      go_roundw
      case rel => exact ⟨k' + 1 + 1, by omega, by go_num, fun i hi => if h : i < k' + 1 then ALL.out i h else by rw [show i = k' + 1 by omega]; exact OK.out, B3, S3⟩
      case measure => simp [intOf]; omega
  ·have E := YY2.out (fun i hi => (ALL.out i (by omega)).1)
   subst E
   go_wp2
   go_ret
   exact ⟨rfl, BB.out⟩
end
section
open Go.RowKit

def bufOk2B (T : Tr) (lo hi : Int) : Bool := decide (T.buf.length ≤ 6) && bufOkB T lo hi
theorem bufOk2_no1 {T : Tr} {lo hi : Int} (h : ¬ T.buf.length ≤ 6) : bufOk2B T lo hi = false := by rw [bufOk2B, decide_eq_false h]; rfl
theorem bufOk2_no2 {T : Tr} {lo hi : Int} {i : Nat} (hi' : i < T.buf.length) (h : msgAt T lo hi i = false) : bufOk2B T lo hi = false := by rw [bufOk2B, bufOkB, allB_false hi' h]; simp
theorem bufOk2_yes {T : Tr} {lo hi : Int} (h1 : T.buf.length ≤ 6) (h3 : ∀ i, i < T.buf.length → msgAt T lo hi i = true) : bufOk2B T lo hi = true := by
 rw [bufOk2B, decide_eq_true h1, bufOkB, allB_true h3]; rfl

theorem bufOk_any (n : Nat) (x : TV) (T : Tr) (kd lo hi ab : Int) (w : World) (ht : TreeAt n w x T) :
  Calls Tryz.prog 151 #[placedV kd lo hi ab x] w fun e w' => e = .returned (.bool (bufOk2B T lo hi)) ∧ Below w.heap.size w w' := by
 cases n with
 | zero => exact ht.elim
 | succ n =>
 obtain ⟨lf, p, c, k, b⟩ := x
 obtain ⟨-, -, -, hb, -⟩ := ht.parts
 simp only at hb
 obtain ⟨a4, b4, off4, q4, rfl, hcap4, hmax4, ha4, go, gk, gv⟩ := hb.msgs
 unfold maxLen at hmax4
 clear ht hb
 have N1 : Hid (¬ T.buf.length ≤ 6 → bufOk2B T lo hi = false) := bufOk2_no1
 have N2 : Hid (∀ i, i < T.buf.length → msgAt T lo hi i = false → bufOk2B T lo hi = false) := fun i => bufOk2_no2
 have YY : Hid (T.buf.length ≤ 6 → (∀ i, i < T.buf.length → msgAt T lo hi i = true) → bufOk2B T lo hi = true) := bufOk2_yes
 generalize bufOk2B T lo hi = R at *
 have GO : Hid (∀ i, i < T.buf.length → w.cell? ⟨b4, off4 + i * 3, none⟩ = some (.int .i64 (mO T.buf i))) := go
 have GK : Hid (∀ i, i < T.buf.length → w.cell? ⟨b4, off4 + i * 3 + 1, none⟩ = some (.int .i64 (mK T.buf i))) := gk
 have GV : Hid (∀ i, i < T.buf.length → w.cell? ⟨b4, off4 + i * 3 + 2, none⟩ = some (.int .i64 (mV T.buf i))) := gv
 have A4 : Hid (0 < T.buf.length → a4 = some ⟨b4, off4, none⟩) := ha4
 clear go gk gv ha4
 generalize T.buf.length = n4 at *
 show Calls Tryz.prog 151 #[.agg #[.int .i64 kd, .int .i64 lo, .int .i64 hi, .int .i64 ab, .bool lf, p, c, k, .slice a4 n4 q4]] w _
 have B0 : Hid _ := bel_new w (.cells #[.int .i64 kd, .int .i64 lo, .int .i64 hi, .int .i64 ab, .bool lf, p, c, k, .slice a4 n4 q4] 180)
 have S0 : Hid (BoxAt 180 _ w.heap.size _) := BoxAt.start 180 w #[.int .i64 kd, .int .i64 lo, .int .i64 hi, .int .i64 ab, .bool lf, p, c, k, .slice a4 n4 q4]
 by_cases h6 : n4 ≤ 6
 case neg =>
  have E := N1.out h6
  subst E
  have h6' : (6 : Int) < (n4 : Int) := by omega
  clear N1 N2 YY GO GK GV A4 S0
  go_enter Tryz.func151, Tryz.ntmps151
  go_wp2
  go_ret
  exact ⟨rfl, B0.out⟩
 case pos =>
 have h6' : ¬ (6 : Int) < (n4 : Int) := by omega
 go_enter Tryz.func151, Tryz.ntmps151
 go_wp2
 go_loopw [14] (fun i wr => ∃ k' : Nat, k' ≤ n4 ∧ i = .int .i64 k' ∧ Hid (∀ i, i < k' → msgAt T lo hi i = true) ∧ Hid (Below w.heap.size w wr) ∧ Hid (BoxAt 180 wr w.heap.size #[.int .i64 kd, .int .i64 lo, .int .i64 hi, .int .i64 ab, .bool lf, p, c, k, .slice a4 n4 q4]))
  (fun i _ => n4 - (intOf i).toNat)
 case atStart => exact ⟨0, Nat.zero_le _, rfl, fun i hi => absurd hi (Nat.not_lt_zero _), B0, S0⟩
 case round =>
  clear B0 S0
  obtain ⟨k', hkl, rfl, ALL, BB, SS⟩ := hrel
  have k0 := SS.out.cells
  by_cases hlt : k' < n4
  ·have hal := A4.out (by omega)
   subst hal
   have d0 := (BB.out.cell (by exact cell_lt (GO.out k' hlt))).trans (GO.out k' hlt)
   have d1 := (BB.out.cell (by exact cell_lt (GK.out k' hlt))).trans (GK.out k' hlt)
   have d2 := (BB.out.cell (by exact cell_lt (GV.out k' hlt))).trans (GV.out k' hlt)
   have hwb : w.heap.size < wr.heap.size := (Array.getElem?_eq_some_iff.1 SS.out).1
   have hwn : ¬ w.heap.size = wr.heap.size := by omega
   have MA : Hid (msgAt T lo hi k' = (msgOkB (mO T.buf k') (mK T.buf k') (mV T.buf k') && (!(mO T.buf k' == 4) && inB (mK T.buf k') lo (hi - 1)))) := rfl
   have NO : Hid (msgAt T lo hi k' = false → R = false) := N2.out k' hlt
   generalize mO T.buf k' = o at *
   generalize mK T.buf k' = ky at *
   generalize mV T.buf k' = v at *
   have B2 : Hid (Below w.heap.size w (wr.alloc (.cells #[.int .i64 o, .int .i64 ky, .int .i64 v] 109))) := BB.out.alloc (by omega) _
   have S2 : Hid (BoxAt 180 (wr.alloc (.cells #[.int .i64 o, .int .i64 ky, .int .i64 v] 109)) w.heap.size _) := SS.out.step (bel_new _ _)
   have M2 : Hid (BoxAt 109 (wr.alloc (.cells #[.int .i64 o, .int .i64 ky, .int .i64 v] 109)) wr.heap.size _) := BoxAt.start 109 wr #[.int .i64 o, .int .i64 ky, .int .i64 v]
   cases hmo : msgOkB o ky v
   ·have E := NO.out (by rw [MA.out, hmo]; rfl)
    subst E
    go_wp2_with fail
    refine (implMsgOk_any _ _ _ _).mono ?_
    rintro e w2 ⟨he, hb2⟩
    rw [hmo] at he
    subst he
    have B3 : Hid (Below w.heap.size w w2) := Below.and B2.out hb2
    clear hb2
    go_wp2
    go_ret
    exact ⟨rfl, B3.out⟩
   ·cases ho : (o == 4)
    ·cases hq : inB ky lo (hi - 1)
     ·have E := NO.out (by rw [MA.out, hq]; simp)
      subst E
      go_wp2_with fail
      refine (implMsgOk_any _ _ _ _).mono ?_
      rintro e w2 ⟨he, hb2⟩
      rw [hmo] at he
      subst he
      have B3 : Hid (Below w.heap.size w w2) := Below.and B2.out hb2
      have j0 := (S2.out.step hb2).cells
      have j1 := (M2.out.step hb2).cells
      clear hb2
      go_wp2_with fail
      refine (has_any _ _ _ _ _ _).mono ?_
      rintro e w3 ⟨he, hb3⟩
      rw [hq] at he
      subst he
      have B4 : Hid (Below w.heap.size w w3) := Below.and B3.out hb3
      clear hb3
      go_wp2
      go_ret
      exact ⟨rfl, B4.out⟩
     ·have OK : Hid (msgAt T lo hi k' = true) := by
       show _ = _
       rw [MA.out, hmo, ho, hq]; rfl
      go_wp2_with fail
      refine (implMsgOk_any _ _ _ _).mono ?_
      rintro e w2 ⟨he, hb2⟩
      rw [hmo] at he
      subst he
      have B3 := hid (Below.and B2.out hb2)
      have S3 := hid (S2.out.step hb2)
      have j0 := S3.out.cells
      have j1 := (M2.out.step hb2).cells
      clear hb2
      go_wp2_with fail
      refine (has_any _ _ _ _ _ _).mono ?_
      rintro e w3 ⟨he, hb3⟩
      rw [hq] at he
      subst he
      have B4 := hid (Below.and B3.out hb3)
      have S4 := hid (S3.out.step hb3)
      clear hb3
      go_wp2
      go_roundw
      case rel => exact ⟨k' + 1, by omega, by go_num, fun i hi => if h : i < k' then ALL.out i h else by rw [show i = k' by omega]; exact OK.out, B4, S4⟩
      case measure => simp [intOf]; omega
    ·have E := NO.out (by rw [MA.out, ho]; simp)
     subst E
     go_wp2_with fail
     refine (implMsgOk_any _ _ _ _).mono ?_
     rintro e w2 ⟨he, hb2⟩
     rw [hmo] at he
     subst he
     have B3 := hid (Below.and B2.out hb2)
     have j0 := (S2.out.step hb2).cells
     have j1 := (M2.out.step hb2).cells
     clear hb2
     go_wp2
     go_ret
     exact ⟨rfl, B3.out⟩
  ·have E := YY.out h6 (fun i hi => ALL.out i (by omega))
   subst E
   go_wp2
   go_ret
   exact ⟨rfl, BB.out⟩
end
end Go.Proofs.YtmdajbbpigbdcaaGreat
