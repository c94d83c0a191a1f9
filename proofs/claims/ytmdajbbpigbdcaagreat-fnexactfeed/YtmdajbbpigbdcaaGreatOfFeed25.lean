/-
  LogOk of both sides.
  LastOf and Newer of both sides.
  TermAt of both sides, and where an entry stands (placeOf).
  Parts of a list of entries: a slice of it leads to a part of it.
  markLog, heldLog; what marks leave as it is.
-/
import Derived.Test.YtmdajbbpigbdcaaGreatOfFeed5
import Derived.BigQuiet
import Derived.Deep.DeepCutAuto
import Derived.Deep.CutBlock
import Derived.Deep.QuietTactic
import Derived.Test.YtmdajbbpigbdcaaGreatOfFeed12
import Derived.Test.YtmdajbbpigbdcaaGreatOfFeed13
namespace Go.Proofs.YtmdajbbpigbdcaaGreat
set_option maxRecDepth 100000
set_option maxHeartbeats 8000000
section
open Go.RowKit

def prevT (bt : Int) (l : EL) (k : Nat) : Int := if k = 0 then bt else eT l (k - 1)
theorem prevT_succ (bt : Int) (l : EL) (k : Nat) : prevT bt l (k + 1) = eT l k := by simp [prevT]
def entAt (bt : Int) (l : EL) (k : Nat) : Bool := inB (eT l k) (prevT bt l k) 100000 && cmdOkB (eC l k) (eS l k) (eO l k) (eK l k) (eV l k)
def entsOk (bt : Int) (l : EL) : Bool := (List.range l.length).all (entAt bt l)
theorem entsOk_true {bt : Int} {l : EL} (h : ∀ k, k < l.length → entAt bt l k = true) : entsOk bt l = true := by
 unfold entsOk; rw [List.all_eq_true]; intro k hk; exact h k (List.mem_range.1 hk)
theorem entsOk_false {bt : Int} {l : EL} {k : Nat} (hk : k < l.length) (h : entAt bt l k = false) : entsOk bt l = false := by
 unfold entsOk; rw [List.all_eq_false]; exact ⟨k, List.mem_range.2 hk, by simp [h]⟩
theorem entAt_t {bt : Int} {l : EL} {k : Nat} (h : inB (eT l k) (prevT bt l k) 100000 = false) : entAt bt l k = false := by simp [entAt, h]
theorem entAt_c {bt : Int} {l : EL} {k : Nat} (h : cmdOkB (eC l k) (eS l k) (eO l k) (eK l k) (eV l k) = false) : entAt bt l k = false := by simp [entAt, h]
theorem entAt_y {bt : Int} {l : EL} {k : Nat} (h1 : inB (eT l k) (prevT bt l k) 100000 = true) (h : cmdOkB (eC l k) (eS l k) (eO l k) (eK l k) (eV l k) = true) : entAt bt l k = true := by simp [entAt, h1, h]
def logOkB (b bt : Int) (l : EL) : Bool := inB b 0 100000 && (inB bt 0 100000 && (decide (b + l.length ≤ 100000) && entsOk bt l))
theorem logOk_1 {b bt : Int} {l : EL} (h : inB b 0 100000 = false) : logOkB b bt l = false := by simp [logOkB, h]
theorem logOk_2 {b bt : Int} {l : EL} (h : inB bt 0 100000 = false) : logOkB b bt l = false := by simp [logOkB, h]
theorem logOk_3 {b bt : Int} {l : EL} (h : ¬ b + l.length ≤ 100000) : logOkB b bt l = false := by simp [logOkB, h]
theorem logOk_4 {b bt : Int} {l : EL} (h : entsOk bt l = false) : logOkB b bt l = false := by simp [logOkB, h]
theorem logOk_5 {b bt : Int} {l : EL} (h1 : inB b 0 100000 = true) (h2 : inB bt 0 100000 = true) (h3 : b + l.length ≤ 100000) (h : entsOk bt l = true) : logOkB b bt l = true := by simp [logOkB, h1, h2, h3, h]

theorem specLogOk_any (b bt : Int) (v : Value) (l : EL) (w : World) (h : Row w v l.length (flatE l)) (hn : l.length ≤ 1099511627776) :
  Calls Tryz.prog 57 #[lgV b bt v] w fun e w' => e = .returned (.bool (logOkB b bt l)) ∧ Below w.heap.size w w' := by
 obtain ⟨a, bb, off, cap, rfl, hcap, hmax, ha, hx0, hx1, hx2, hx3, hx4, hx5⟩ := h.ents
 unfold maxLen at hmax
 have N1 : Hid (MBox 40 (w.alloc (.cells #[.int .i64 b, .int .i64 bt, .slice a l.length cap] 40)) w.heap.size #[.int .i64 b, .int .i64 bt, .slice a l.length cap]) := MBox.start _ w _
 have B1 : Hid (Below w.heap.size w (w.alloc (.cells #[.int .i64 b, .int .i64 bt, .slice a l.length cap] 40))) := bel_nw _ _
 have c1 := N1.out.cells
 clear h
 cases h1 : inB b 0 100000 with
 | false =>
  have E : Hid (logOkB b bt l = false) := logOk_1 h1
  clear hx0 hx1 hx2 hx3 hx4 hx5 ha
  go_enter Tryz.func57, Tryz.ntmps57
  go_wp2_with (go_at_call 44; refine (l1In_any _ _ _ _).mono ?_; rintro e w' ⟨rfl, rfl⟩)
  go_ret
  exact ⟨ret_bool E.out.symm, B1.out⟩
 | true =>
 cases h2 : inB bt 0 100000 with
 | false =>
  have E : Hid (logOkB b bt l = false) := logOk_2 h2
  clear hx0 hx1 hx2 hx3 hx4 hx5 ha
  go_enter Tryz.func57, Tryz.ntmps57
  go_wp2_with (go_at_call 44; refine (l1In_any _ _ _ _).mono ?_; rintro e w' ⟨rfl, rfl⟩)
  go_ret
  exact ⟨ret_bool E.out.symm, B1.out⟩
 | true =>
 have hb0 := (inB_iff.1 h1).1
 have hb1 := (inB_iff.1 h1).2
 by_cases h3 : b + l.length ≤ 100000
 ·have HH : Hid _ := And.intro h1 (And.intro h2 h3)
  have hgt : ¬ (100000 : Int) < b + l.length := by omega
  go_enter Tryz.func57, Tryz.ntmps57
  go_wp2_with (go_at_call 44; refine (l1In_any _ _ _ _).mono ?_; rintro e w' ⟨rfl, rfl⟩)
  clear h1 h2 c1
  generalize w.alloc (.cells #[.int .i64 b, .int .i64 bt, .slice a l.length cap] 40) = W at *
  go_loopw [3, 4] (fun t i wr => ∃ j : Nat, j ≤ l.length ∧ i = .int .i64 j ∧ t = .int .i64 (prevT bt l j) ∧ Hid (∀ i, i < j → entAt bt l i = true) ∧ Hid (Below W.heap.size W wr))
   (fun _ i _ => l.length - (intOf i).toNat)
  case atStart => exact ⟨0, Nat.zero_le _, rfl, rfl, fun i hi => absurd hi (Nat.not_lt_zero _), Below.refl _ _⟩
  case round =>
   obtain ⟨j, hjl, rfl, rfl, ALL, hbW⟩ := hrel
   have c1 := (N1.out.step hbW.out).cells
   have hb : Hid (Below w.heap.size w wr) := Below.and B1.out hbW.out
   by_cases hlt : j < l.length
   ·have hal := ha (by omega)
    subst hal
    have d0 : wr.cell? ⟨bb, off + j * 6, none⟩ = some (.int .i64 (eT l j)) := (hb.out.cell (by exact cell_lt (hx0 j hlt))).trans (hx0 j hlt)
    have d1 : wr.cell? ⟨bb, off + j * 6 + 1, none⟩ = some (.int .i64 (eC l j)) := (hb.out.cell (by exact cell_lt (hx1 j hlt))).trans (hx1 j hlt)
    have d2 : wr.cell? ⟨bb, off + j * 6 + 2, none⟩ = some (.int .i64 (eS l j)) := (hb.out.cell (by exact cell_lt (hx2 j hlt))).trans (hx2 j hlt)
    have d3 : wr.cell? ⟨bb, off + j * 6 + 3, none⟩ = some (.int .i64 (eO l j)) := (hb.out.cell (by exact cell_lt (hx3 j hlt))).trans (hx3 j hlt)
    have d4 : wr.cell? ⟨bb, off + j * 6 + 4, none⟩ = some (.int .i64 (eK l j)) := (hb.out.cell (by exact cell_lt (hx4 j hlt))).trans (hx4 j hlt)
    have d5 : wr.cell? ⟨bb, off + j * 6 + 5, none⟩ = some (.int .i64 (eV l j)) := (hb.out.cell (by exact cell_lt (hx5 j hlt))).trans (hx5 j hlt)
    clear hx1 hx2 hx3 hx4 hx5
    cases hT : inB (eT l j) (prevT bt l j) 100000 with
    | false =>
     have E : Hid (logOkB b bt l = false) := logOk_4 (entsOk_false hlt (entAt_t hT))
     clear hx0
     generalize prevT bt l j = pt at *
     go_wp2_with (go_at_call 44; refine (l1In_any _ _ _ _).mono ?_; rintro e w' ⟨rfl, rfl⟩)
     go_ret
     exact ⟨ret_bool E.out.symm, hb.out⟩
    | true =>
     generalize hpt : prevT bt l j = pt at *
     have HT : Hid (inB (eT l j) pt 100000 = true) := hT
     change Hid _ at hpt
     go_wp2_with (go_at_call 44; refine (l1In_any _ _ _ _).mono ?_; rintro e w' ⟨rfl, rfl⟩)
     refine (specCmdOk_any _ _ _ _ _ _).mono ?_
     rintro e w2 ⟨rfl, b2⟩
     have FW : Hid (Below W.heap.size W w2) := Below.and hbW.out b2
     have FB : Hid (Below w.heap.size w w2) := Below.and hb.out b2
     clear b2 d0 d1 d2 d3 d4 d5 c1 hT
     have c1 := (N1.out.step FW.out).cells
     have d0 : w2.cell? ⟨bb, off + j * 6, none⟩ = some (.int .i64 (eT l j)) := (FB.out.cell (by exact cell_lt (hx0 j hlt))).trans (hx0 j hlt)
     clear hx0
     generalize hC : cmdOkB (eC l j) (eS l j) (eO l j) (eK l j) (eV l j) = q
     cases q with
     | false =>
      have E : Hid (logOkB b bt l = false) := logOk_4 (entsOk_false hlt (entAt_c hC))
      clear hC
      go_wp2
      go_ret
      exact ⟨ret_bool E.out.symm, FB.out⟩
     | true =>
      have OK : Hid (entAt bt l j = true) := by
       have := HT.out
       rw [← hpt.out] at this
       exact entAt_y this hC
      clear hC
      go_wp2
      go_roundw
      case rel => exact ⟨j + 1, by omega, by go_num, by rw [prevT_succ], fun i hi => if h : i < j then ALL.out i h else by rw [show i = j by omega]; exact OK.out, FW.out⟩
      case measure => simp [intOf]; omega
   ·have E : Hid (logOkB b bt l = true) := logOk_5 HH.out.1 HH.out.2.1 HH.out.2.2 (entsOk_true (fun i hi => ALL.out i (by omega)))
    clear hx0 hx1 hx2 hx3 hx4 hx5
    go_wp2
    go_ret
    exact ⟨ret_bool E.out.symm, hb.out⟩
 ·have E : Hid (logOkB b bt l = false) := logOk_3 h3
  have hgt : (100000 : Int) < b + l.length := by omega
  clear hx0 hx1 hx2 hx3 hx4 hx5 ha h3
  go_enter Tryz.func57, Tryz.ntmps57
  go_wp2_with (go_at_call 44; refine (l1In_any _ _ _ _).mono ?_; rintro e w' ⟨rfl, rfl⟩)
  go_ret
  exact ⟨ret_bool E.out.symm, B1.out⟩
end
section
open Go.RowKit

def lastN (b : Int) (l : EL) : Int := if l.length = 0 then b else wrap64 (b + l.length)
abbrev lastV (b bt : Int) (l : EL) : Value := .tuple #[.int .i64 (lastN b l), .int .i64 (prevT bt l l.length)]
def newerB (b bt : Int) (l : EL) (la lt : Int) : Bool := decide (lt > prevT bt l l.length ∨ (lt = prevT bt l l.length ∧ la ≥ lastN b l))

theorem specLastOf_any (b bt : Int) (v : Value) (l : EL) (w : World) (h : Row w v l.length (flatE l)) :
  Calls Tryz.prog 59 #[lgV b bt v] w fun e w' => e = .returned (lastV b bt l) ∧ Below w.heap.size w w' := by
 obtain ⟨a, bb, off, cap, rfl, hcap, hmax, ha, hx0, hx1, hx2, hx3, hx4, hx5⟩ := h.ents
 unfold maxLen at hmax
 clear hx1 hx2 hx3 hx4 hx5
 have N1 : Hid (MBox 40 (w.alloc (.cells #[.int .i64 b, .int .i64 bt, .slice a l.length cap] 40)) w.heap.size #[.int .i64 b, .int .i64 bt, .slice a l.length cap]) := MBox.start _ w _
 have B1 : Hid (Below w.heap.size w (w.alloc (.cells #[.int .i64 b, .int .i64 bt, .slice a l.length cap] 40))) := bel_nw _ _
 have c1 := N1.out.cells
 clear h
 by_cases hz : l.length = 0
 ·have E1 : Hid (lastN b l = b) := if_pos hz
  have E2 : Hid (prevT bt l l.length = bt) := by show _ = _; rw [hz]; rfl
  have HZ : Hid _ := hz
  rw [hz] at c1 B1 ⊢
  rw [hz] at hcap
  clear hx0 ha hz
  go_enter Tryz.func59, Tryz.ntmps59
  go_wp2_with fail
  go_quiet (fail)
  go_wp2
  refine bodyPost_ret (v := .tuple #[.int .i64 b, .int .i64 bt]) (by simp [results, Tryz.results59, go_sem]) rfl ⟨?_, below_drewN B1.out _⟩
  show _ = Ending.returned (.tuple #[.int .i64 (lastN b l), .int .i64 (prevT bt l l.length)])
  rw [E1.out, E2.out]
 ·obtain ⟨n, hn⟩ : ∃ n, l.length = n + 1 := ⟨l.length - 1, by omega⟩
  have E1 : Hid (lastN b l = wrap64 (b + ((n + 1 : Nat) : Int))) := by show _ = _; unfold lastN; rw [if_neg hz, hn]
  have E2 : Hid (prevT bt l l.length = eT l n) := by show _ = _; rw [hn, prevT_succ]
  have hal := ha (by omega)
  subst hal
  have d0 : (w.alloc (.cells #[.int .i64 b, .int .i64 bt, .slice (some ⟨bb, off, none⟩) l.length cap] 40)).cell? ⟨bb, off + n * 6, none⟩ = some (.int .i64 (eT l n)) := (B1.out.cell (by exact cell_lt (hx0 n (by omega)))).trans (hx0 n (by omega))
  rw [hn] at c1 B1 d0 hcap ⊢
  clear hx0 ha hz N1
  have HN : Hid _ := hn
  clear hn
  go_enter Tryz.func59, Tryz.ntmps59
  go_wp2_with fail
  go_quiet (fail)
  go_wp2
  refine bodyPost_ret (v := .tuple #[.int .i64 (wrap64 (b + ((n + 1 : Nat) : Int))), .int .i64 (eT l n)]) (by simp [results, Tryz.results59, go_sem]) rfl ⟨?_, below_drewN B1.out _⟩
  show _ = Ending.returned (.tuple #[.int .i64 (lastN b l), .int .i64 (prevT bt l l.length)])
  rw [E1.out, E2.out]

theorem implLastOf_any (b bt : Int) (v : Value) (l : EL) (w : World) (h : Row w v l.length (flatE l)) :
  Calls Tryz.prog 99 #[lgV b bt v] w fun e w' => e = .returned (lastV b bt l) ∧ Below w.heap.size w w' := by
 obtain ⟨a, bb, off, cap, rfl, hcap, hmax, ha, hx0, hx1, hx2, hx3, hx4, hx5⟩ := h.ents
 unfold maxLen at hmax
 clear hx1 hx2 hx3 hx4 hx5
 have N1 : Hid (MBox 40 (w.alloc (.cells #[.int .i64 b, .int .i64 bt, .slice a l.length cap] 40)) w.heap.size #[.int .i64 b, .int .i64 bt, .slice a l.length cap]) := MBox.start _ w _
 have B1 : Hid (Below w.heap.size w (w.alloc (.cells #[.int .i64 b, .int .i64 bt, .slice a l.length cap] 40))) := bel_nw _ _
 have c1 := N1.out.cells
 clear h
 by_cases hz : l.length = 0
 ·have E1 : Hid (lastN b l = b) := if_pos hz
  have E2 : Hid (prevT bt l l.length = bt) := by show _ = _; rw [hz]; rfl
  have HZ : Hid _ := hz
  rw [hz] at c1 B1 ⊢
  rw [hz] at hcap
  clear hx0 ha hz
  go_enter Tryz.func99, Tryz.ntmps99
  go_wp2_with fail
  go_quiet (fail)
  go_wp2
  refine bodyPost_ret (v := .tuple #[.int .i64 b, .int .i64 bt]) (by simp [results, Tryz.results99, go_sem]) rfl ⟨?_, below_drewN B1.out _⟩
  show _ = Ending.returned (.tuple #[.int .i64 (lastN b l), .int .i64 (prevT bt l l.length)])
  rw [E1.out, E2.out]
 ·obtain ⟨n, hn⟩ : ∃ n, l.length = n + 1 := ⟨l.length - 1, by omega⟩
  have E1 : Hid (lastN b l = wrap64 (b + ((n + 1 : Nat) : Int))) := by show _ = _; unfold lastN; rw [if_neg hz, hn]
  have E2 : Hid (prevT bt l l.length = eT l n) := by show _ = _; rw [hn, prevT_succ]
  have hal := ha (by omega)
  subst hal
  have d0 : (w.alloc (.cells #[.int .i64 b, .int .i64 bt, .slice (some ⟨bb, off, none⟩) l.length cap] 40)).cell? ⟨bb, off + n * 6, none⟩ = some (.int .i64 (eT l n)) := (B1.out.cell (by exact cell_lt (hx0 n (by omega)))).trans (hx0 n (by omega))
  rw [hn] at c1 B1 d0 hcap ⊢
  clear hx0 ha hz N1
  have HN : Hid _ := hn
  clear hn
  go_enter Tryz.func99, Tryz.ntmps99
  go_wp2_with fail
  go_quiet (fail)
  go_wp2
  refine bodyPost_ret (v := .tuple #[.int .i64 (wrap64 (b + ((n + 1 : Nat) : Int))), .int .i64 (eT l n)]) (by simp [results, Tryz.results99, go_sem]) rfl ⟨?_, below_drewN B1.out _⟩
  show _ = Ending.returned (.tuple #[.int .i64 (lastN b l), .int .i64 (prevT bt l l.length)])
  rw [E1.out, E2.out]
end
section
open Go.RowKit

def I64 (x : Int) : Prop := -9223372036854775808 ≤ x ∧ x ≤ 9223372036854775807
theorem far_u64 {b i : Int} (hb : I64 b) (hi : I64 i) (h : b < i) : IntKind.u64.wrap (IntKind.u64.wrap (IntKind.u64.wrap i - IntKind.u64.wrap b) - 1) = i - b - 1 := by
 unfold I64 at hb hi
 simp only [IntKind.wrap_u64]
 omega
theorem far_i64 {b i : Int} {n : Nat} (hb : I64 b) (hi : I64 i) (h : b < i) (hn : ¬ i - b - 1 < n) : inB (wrap64 (wrap64 (i - b) - 1)) 0 ((n : Int) - 1) = false := by
 unfold I64 at hb hi
 unfold wrap64 inB
 simp only [decide_eq_false_iff_not]
 omega
def placeB (b : Int) (l : EL) (i : Int) : Option Nat := if b < i ∧ i - b - 1 < l.length then some (i - b - 1).toNat else none
theorem placeB_le {b : Int} {l : EL} {i : Int} (h : i ≤ b) : placeB b l i = none := if_neg (by omega)
theorem placeB_far {b : Int} {l : EL} {i : Int} (h : ¬ i - b - 1 < l.length) : placeB b l i = none := if_neg (by omega)
theorem placeB_at {b : Int} {l : EL} {n : Nat} (h : n < l.length) {i : Int} (hi : i = b + n + 1) : placeB b l i = some n := by
 unfold placeB; rw [if_pos (by omega)]; congr 1; omega
theorem placeB_some {b : Int} {l : EL} {i : Int} {n : Nat} (h : placeB b l i = some n) : n < l.length ∧ i = b + n + 1 := by
 unfold placeB at h
 split at h
 ·simp at h; omega
 ·cases h
def termB (b bt : Int) (l : EL) (i : Int) : Int := if i = b then bt else match placeB b l i with | some n => eT l n | none => -1

abbrev placeLV (o : Option Nat) : Value := match o with | some n => .tuple #[.int .i64 (n : Int), .bool true] | none => .tuple #[.int .i64 0, .bool false]

theorem placeOf_any (b bt : Int) (v : Value) (l : EL) (i : Int) (w : World) (h : Row w v l.length (flatE l)) (hb : I64 b) (hi : I64 i) :
  Calls Tryz.prog 143 #[lgV b bt v, .int .i64 i] w fun e w' => e = .returned (placeLV (placeB b l i)) ∧ Below w.heap.size w w' := by
 obtain ⟨a, bb, off, cap, rfl, hcap, hmax, -⟩ := h.ents
 unfold maxLen at hmax
 have B1 : Hid (Below w.heap.size w (w.alloc (.cells #[.int .i64 b, .int .i64 bt, .slice a l.length cap] 40))) := bel_nw _ _
 clear h
 have HI : Hid (I64 b ∧ I64 i) := ⟨hb, hi⟩
 clear hb hi
 by_cases h1 : i ≤ b
 ·have E : Hid (placeB b l i = none) := placeB_le h1
  go_enter Tryz.func143, Tryz.ntmps143
  go_wp2
  refine bodyPost_ret (v := .tuple #[.int .i64 0, .bool false]) (by simp [results, Tryz.results143, go_sem]) rfl ⟨?_, B1.out⟩
  rw [E.out]
 ·have hd := far_u64 HI.out.1 HI.out.2 (show b < i by omega)
  by_cases h2 : i - b - 1 < l.length
  ·obtain ⟨n, hn⟩ : ∃ n : Nat, i - b - 1 = n := ⟨(i - b - 1).toNat, by omega⟩
   have E : Hid (placeB b l i = some n) := placeB_at (by omega) (by omega)
   rw [hn] at hd h2
   have HN : Hid _ := hn
   have h3 : n < l.length := by omega
   have h4 : ¬ ((l.length : Nat) : Int) ≤ (n : Int) := by omega
   clear h2 hn
   go_enter Tryz.func143, Tryz.ntmps143
   go_wp2
   refine bodyPost_ret (v := .tuple #[.int .i64 (n : Int), .bool true]) (by simp [results, Tryz.results143, go_sem]) rfl ⟨?_, B1.out⟩
   rw [E.out]
  ·have E : Hid (placeB b l i = none) := placeB_far h2
   have h4 : ((l.length : Nat) : Int) ≤ i - b - 1 := by omega
   generalize i - b - 1 = d at *
   clear h2
   go_enter Tryz.func143, Tryz.ntmps143
   go_wp2
   refine bodyPost_ret (v := .tuple #[.int .i64 0, .bool false]) (by simp [results, Tryz.results143, go_sem]) rfl ⟨?_, B1.out⟩
   rw [E.out]

theorem implTermAt_any (b bt : Int) (v : Value) (l : EL) (i : Int) (w : World) (h : Row w v l.length (flatE l)) (hb : I64 b) (hi : I64 i) :
  Calls Tryz.prog 136 #[lgV b bt v, .int .i64 i] w fun e w' => e = .returned (.int .i64 (termB b bt l i)) ∧ Below w.heap.size w w' := by
 have C : Hid (∀ u, Below w.heap.size w u → Calls Tryz.prog 143 #[lgV b bt v, .int .i64 i] u fun e w' => e = .returned (placeLV (placeB b l i)) ∧ Below u.heap.size u w') := fun u hu => placeOf_any b bt v l i u (Row.below h hu) hb hi
 obtain ⟨a, bb, off, cap, rfl, hcap, hmax, ha, hx0, -⟩ := h.ents
 unfold maxLen at hmax
 have N1 : Hid (MBox 40 (w.alloc (.cells #[.int .i64 b, .int .i64 bt, .slice a l.length cap] 40)) w.heap.size #[.int .i64 b, .int .i64 bt, .slice a l.length cap]) := MBox.start _ w _
 have B1 : Hid (Below w.heap.size w (w.alloc (.cells #[.int .i64 b, .int .i64 bt, .slice a l.length cap] 40))) := bel_nw _ _
 have c1 := N1.out.cells
 clear h hb hi
 by_cases h1 : i = b
 ·have E : Hid (termB b bt l i = bt) := if_pos h1
  subst h1
  clear hx0 ha C
  go_enter Tryz.func136, Tryz.ntmps136
  go_wp2
  go_ret
  exact ⟨ret_int E.out.symm, B1.out⟩
 ·have h1' : (i == b) = false := by simpa using h1
  have E : Hid (termB b bt l i = match placeB b l i with | some n => eT l n | none => -1) := if_neg h1
  cases hp : placeB b l i with
  | none =>
   rw [hp] at C E
   clear hx0 ha
   go_enter Tryz.func136, Tryz.ntmps136
   go_wp2_with fail
   refine (C.out _ B1.out).mono ?_
   rintro e w1 ⟨rfl, b1⟩
   have B2 : Hid (Below w.heap.size w w1) := Below.and B1.out b1
   clear b1
   go_wp2
   go_ret
   exact ⟨ret_int E.out.symm, B2.out⟩
  | some n =>
   rw [hp] at C E
   have hn := (placeB_some hp).1
   clear hp
   have hal := ha (by omega)
   subst hal
   go_enter Tryz.func136, Tryz.ntmps136
   go_wp2_with fail
   refine (C.out _ B1.out).mono ?_
   rintro e w1 ⟨rfl, b1⟩
   have B2 : Hid (Below w.heap.size w w1) := Below.and B1.out b1
   have N2 := N1.out.step b1
   clear b1 c1
   have c1 := N2.cells
   have d0 : w1.cell? ⟨bb, off + n * 6, none⟩ = some (.int .i64 (eT l n)) := (B2.out.cell (by exact cell_lt (hx0 n hn))).trans (hx0 n hn)
   clear hx0 N2
   go_wp2
   go_ret
   exact ⟨ret_int E.out.symm, B2.out⟩

theorem specTermAt_any (b bt : Int) (v : Value) (l : EL) (i : Int) (w : World) (h : Row w v l.length (flatE l)) (hb : I64 b) (hi : I64 i) :
  Calls Tryz.prog 45 #[lgV b bt v, .int .i64 i] w fun e w' => e = .returned (.int .i64 (termB b bt l i)) ∧ Below w.heap.size w w' := by
 obtain ⟨a, bb, off, cap, rfl, hcap, hmax, ha, hx0, -⟩ := h.ents
 unfold maxLen at hmax
 have N1 : Hid (MBox 40 (w.alloc (.cells #[.int .i64 b, .int .i64 bt, .slice a l.length cap] 40)) w.heap.size #[.int .i64 b, .int .i64 bt, .slice a l.length cap]) := MBox.start _ w _
 have B1 : Hid (Below w.heap.size w (w.alloc (.cells #[.int .i64 b, .int .i64 bt, .slice a l.length cap] 40))) := bel_nw _ _
 have c1 := N1.out.cells
 have HI : Hid (I64 b ∧ I64 i) := ⟨hb, hi⟩
 clear h hb hi
 by_cases h1 : i = b
 ·have E : Hid (termB b bt l i = bt) := if_pos h1
  subst h1
  clear hx0 ha
  go_enter Tryz.func45, Tryz.ntmps45
  go_wp2
  go_ret
  exact ⟨ret_int E.out.symm, B1.out⟩
 ·have h1' : (i == b) = false := by simpa using h1
  have E : Hid (termB b bt l i = match placeB b l i with | some n => eT l n | none => -1) := if_neg h1
  by_cases h2 : i < b
  ·rw [placeB_le (show i ≤ b by omega)] at E
   clear hx0 ha
   go_enter Tryz.func45, Tryz.ntmps45
   go_wp2_with (go_at_call 44; refine (l1In_any _ _ _ _).mono ?_; rintro e w' ⟨rfl, rfl⟩)
   go_ret
   exact ⟨ret_int E.out.symm, B1.out⟩
  ·by_cases h3 : i - b - 1 < l.length
   ·obtain ⟨n, hn⟩ : ∃ n : Nat, i - b = n + 1 := ⟨(i - b - 1).toNat, by omega⟩
    rw [placeB_at (n := n) (by omega) (by omega)] at E
    have hlt : n < l.length := by omega
    have hi2 : inB (n : Int) 0 ((l.length : Int) - 1) = true := inB_true (by omega) (by omega)
    have hal := ha (by omega)
    subst hal
    have d0 : (w.alloc (.cells #[.int .i64 b, .int .i64 bt, .slice (some ⟨bb, off, none⟩) l.length cap] 40)).cell? ⟨bb, off + n * 6, none⟩ = some (.int .i64 (eT l n)) := (B1.out.cell (by exact cell_lt (hx0 n hlt))).trans (hx0 n hlt)
    clear hx0 ha h3 N1
    go_enter Tryz.func45, Tryz.ntmps45
    go_wp2_with (go_at_call 44; refine (l1In_any _ _ _ _).mono ?_; rintro e w' ⟨rfl, rfl⟩)
    go_ret
    exact ⟨ret_int E.out.symm, B1.out⟩
   ·have hf := far_i64 HI.out.1 HI.out.2 (show b < i by omega) h3
    rw [placeB_far h3] at E
    clear hx0 ha h3
    go_enter Tryz.func45, Tryz.ntmps45
    go_wp2_with (go_at_call 44; refine (l1In_any _ _ _ _).mono ?_; rintro e w' ⟨rfl, rfl⟩)
    go_ret
    exact ⟨ret_int E.out.symm, B1.out⟩
end
section
open Go.RowKit

theorem room_rowE {n bytes : Nat} (h : n ≤ 8388608) (hb : bytes ≤ 256) : 0 + n ≤ maxLen ∧ (0 + n) * bytes ≤ 140737488355328 := by
 constructor
 ·unfold maxLen; omega
 ·calc (0 + n) * bytes ≤ 8388608 * 256 := Nat.mul_le_mul (by omega) hb
   _ ≤ 140737488355328 := by decide

theorem flatE_part (l : EL) (i j : Nat) : flatE ((l.take j).drop i) = ((flatE l).take (j * 6)).drop (i * 6) := by rw [flatE_drop, flatE_take]
theorem Row.part {w : World} {a : Option Addr} {cap : Nat} {l : EL} (h : Row w (.slice a l.length cap) l.length (flatE l)) {i j m : Nat} (hij : i ≤ j) (hjl : j ≤ l.length) (hjm : j ≤ m) (hm : m ≤ cap) :
  Row w (.slice (if m = i then a else a.map (·.add (i * 6))) (j - i) (m - i)) (j - i) (flatE ((l.take j).drop i)) := by
 obtain ⟨a', b, off, cap', hv, h2, h3, h4, h5, h6⟩ := h
 simp at hv
 obtain ⟨rfl, rfl⟩ := hv
 refine ⟨_, b, off + i * 6, _, rfl, by omega, by omega, fun h0 => ?_, fun k u hk => ?_, fun hn => ?_⟩
 ·rw [if_neg (by omega), h4 (by omega)]; simp [Addr.add]
 ·rw [flatE_part, List.getElem?_drop, List.getElem?_take] at hk
  split at hk
  ·have := h5 _ u hk
   rw [Nat.add_assoc]
   exact this
  ·cases hk
 ·by_cases hmi : m = i
  ·omega
  ·rw [if_neg hmi] at hn
   have : a = none := by simpa using hn
   have := h6 this
   omega

def entsB (b : Int) (l : EL) (i : Int) : EL := match placeB b l i with | some n => l.drop n | none => []
theorem entsB_none {b : Int} {l : EL} {i : Int} (h : placeB b l i = none) : entsB b l i = [] := by unfold entsB; rw [h]
theorem entsB_some {b : Int} {l : EL} {i : Int} {n : Nat} (h : placeB b l i = some n) : entsB b l i = l.drop n := by unfold entsB; rw [h]
theorem entsB_to {b : Int} {l : EL} {i : Int} {n : Nat} (hn : i - b = n + 1) (hle : n ≤ l.length) : entsB b l i = l.drop n := by
 by_cases h : n < l.length
 ·exact entsB_some (placeB_at h (by omega))
 ·rw [entsB_none (placeB_far (by omega)), List.drop_of_length_le (by omega)]
theorem entsB_len (b : Int) (l : EL) (i : Int) : (entsB b l i).length ≤ l.length := by
 unfold entsB
 cases placeB b l i with
 | none => exact Nat.zero_le _
 | some n => rw [List.length_drop]; omega
theorem far_i64' {b i : Int} {n : Nat} (hb : I64 b) (hi : I64 i) (h : b < i) (hn : ¬ i - b - 1 ≤ n) : inB (wrap64 (wrap64 (i - b) - 1)) 0 (n : Int) = false := by
 have := far_i64 (n := n + 1) hb hi h (by omega)
 rwa [show (((n + 1 : Nat) : Int) - 1) = (n : Int) by omega] at this

theorem specEntriesFrom_any (b bt : Int) (v : Value) (l : EL) (i : Int) (w : World) (h : Row w v l.length (flatE l)) (hb : I64 b) (hi : I64 i) (hs : l.length ≤ 2097152) :
  Calls Tryz.prog 46 #[lgV b bt v, .int .i64 i] w fun e w' => ∃ v', e = .returned v' ∧ OwnE w' w.heap.size 113 6 v' (entsB b l i).length (flatE (entsB b l i)) ∧ Below w.heap.size w w' := by
 obtain ⟨i0, hi0, hz0, hz1, hz2⟩ := info_parts Tryz.info113
 obtain ⟨a, bb, off, cap, rfl, hcap, hmax, -⟩ := h.ents
 unfold maxLen at hmax
 have B1 : Hid (Below w.heap.size w ((w.alloc (.cells #[.int .i64 b, .int .i64 bt, .slice a l.length cap] 40)).alloc (.cells #[] 113))) := Below.and (bel_nw _ _) (bel_nw _ _)
 have HH : Hid _ := And.intro h (And.intro hb hi)
 clear h hb hi
 by_cases h1 : i ≤ b
 ·have E : Hid (entsB b l i = []) := entsB_none (placeB_le h1)
  go_enter Tryz.func46, Tryz.ntmps46
  go_wp2_with (go_at_call 44; refine (l1In_any _ _ _ _).mono ?_; rintro e w' ⟨rfl, rfl⟩)
  go_ret
  exact ⟨_, rfl, by rw [E.out]; exact OwnE.zero _ _ _ _ _, B1.out⟩
 ·by_cases h2 : i - b - 1 ≤ l.length
  ·obtain ⟨n, hn⟩ : ∃ n : Nat, i - b = n + 1 := ⟨(i - b - 1).toNat, by omega⟩
   have hle : n ≤ l.length := by omega
   have E : Hid (entsB b l i = l.drop n) := entsB_to hn hle
   have hi2 : inB (n : Int) 0 (l.length : Int) = true := inB_true (by omega) (by omega)
   obtain ⟨a2, ha2⟩ : ∃ a2, (if cap = n then a else a.map (·.add (n * 6))) = a2 := ⟨_, rfl⟩
   have P1 : Hid (Row w (.slice a2 (l.length - n) (cap - n)) (l.length - n) (flatE (l.drop n))) := by
    have := HH.out.1.part hle (Nat.le_refl _) hcap (Nat.le_refl cap)
    rw [ha2, List.take_length] at this
    exact this
   have Z1 : Hid _ := room_rowE (n := l.length - n) (bytes := 48) (by omega) (by decide)
   have hlen : Hid ((flatE (l.drop n)).length = (l.length - n) * 6) := by show _ = _; rw [flatE_length, List.length_drop]
   clear h2
   go_enter Tryz.func46, Tryz.ntmps46
   go_wp2_with (first | (go_at_call 44; refine (l1In_any _ _ _ _).mono ?_; rintro e w' ⟨rfl, rfl⟩) | (at_builtin; refine list_appE ((w.alloc (.cells #[.int .i64 b, .int .i64 bt, .slice a l.length cap] 40)).alloc (.cells #[] 113)) rfl _ _ 38 rfl w.heap.size 113 i0 _ 6 48 Tryz.underlying38 hi0 hz0 hz1 hz2 rfl (by decide) (.slice (some ⟨w.heap.size + 1, 0, none⟩) 0 0) 0 [] rfl (OwnE.zero _ _ _ _ _) (.slice a2 (l.length - n) (cap - n)) (l.length - n) (flatE (l.drop n)) rfl (P1.out.below B1.out) hlen.out (flatE_one _) Z1.out.1 Z1.out.2 B1.out.size ?_))
   intro v' w' AP
   have FIN : Hid (OwnE w' w.heap.size 113 6 v' (entsB b l i).length (flatE (entsB b l i)) ∧ Below w.heap.size w w') := by
    have := AP.1
    show _ ∧ _
    rw [E.out, List.length_drop]
    exact ⟨by simpa using this, B1.out.trans AP.2.2.1⟩
   clear AP
   go_wp2
   go_ret
   exact ⟨_, rfl, FIN.out⟩
  ·have hf := far_i64' HH.out.2.1 HH.out.2.2 (show b < i by omega) h2
   have E : Hid (entsB b l i = []) := entsB_none (placeB_far (by omega))
   clear h2
   go_enter Tryz.func46, Tryz.ntmps46
   go_wp2_with (go_at_call 44; refine (l1In_any _ _ _ _).mono ?_; rintro e w' ⟨rfl, rfl⟩)
   go_ret
   exact ⟨_, rfl, by rw [E.out]; exact OwnE.zero _ _ _ _ _, B1.out⟩
end
section
open Go.RowKit
end
end Go.Proofs.YtmdajbbpigbdcaaGreat
