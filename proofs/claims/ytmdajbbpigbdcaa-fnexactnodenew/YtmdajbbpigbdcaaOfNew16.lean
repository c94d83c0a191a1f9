/-
  LogOk of both sides.
  LastOf and Newer of both sides.
  TermAt of both sides, and where an entry stands (placeOf).
  Parts of a list of entries: a slice of it leads to a part of it.
  markLog, heldLog; what marks leave as it is.
  The laws' functions that write marks into a node, and look for them.
-/
import Derived.Test.YtmdajbbpigbdcaaOfNew3
import Derived.BigQuiet
import Derived.Deep.DeepCutAuto
import Derived.Deep.CutBlock
import Derived.Deep.QuietTactic
import Derived.Test.YtmdajbbpigbdcaaOfNew7
import Derived.Test.YtmdajbbpigbdcaaOfNew13
import Derived.Test.YtmdajbbpigbdcaaOfNew15
namespace Go.Proofs.Ytmdajbbpigbdcaa
set_option maxRecDepth 100000
set_option maxHeartbeats 8000000
section
open Go.RowKit

def prevT (bt : Int) (l : EL) (k : Nat) : Int := if k = 0 then bt else eT l (k - 1)
theorem prevT_succ (bt : Int) (l : EL) (k : Nat) : prevT bt l (k + 1) = eT l k := by simp [prevT]
def entAt (bt : Int) (l : EL) (k : Nat) : Bool := inB (eT l k) (prevT bt l k) 100000 && cmdOkB (eC l k) (eS l k) (eO l k) (eK l k) (eV l k)
def entsOk (bt : Int) (l : EL) : Bool := (List.range l.length).all (entAt bt l)
theorem entsOk_true {bt : Int} {l : EL} (h : ∀ k, k < l.length → entAt bt l k = true) : entsOk bt l = true := by
 unfold entsOk; rw [List.all_eq_true]; intro k hk; exact h k (List.mem_range.1 hk)
theorem entsOk_false {bt : Int} {l : EL} {k : Nat} (hk : k < l.length) (h : entAt bt l k = false) : entsOk bt l = false := by
 unfold entsOk; rw [List.all_eq_false]; exact ⟨k, List.mem_range.2 hk, by simp [h]⟩
theorem entAt_t {bt : Int} {l : EL} {k : Nat} (h : inB (eT l k) (prevT bt l k) 100000 = false) : entAt bt l k = false := by simp [entAt, h]
theorem entAt_c {bt : Int} {l : EL} {k : Nat} (h : cmdOkB (eC l k) (eS l k) (eO l k) (eK l k) (eV l k) = false) : entAt bt l k = false := by simp [entAt, h]
theorem entAt_y {bt : Int} {l : EL} {k : Nat} (h1 : inB (eT l k) (prevT bt l k) 100000 = true) (h : cmdOkB (eC l k) (eS l k) (eO l k) (eK l k) (eV l k) = true) : entAt bt l k = true := by simp [entAt, h1, h]
def logOkB (b bt : Int) (l : EL) : Bool := inB b 0 100000 && (inB bt 0 100000 && (decide (b + l.length ≤ 100000) && entsOk bt l))
theorem logOk_1 {b bt : Int} {l : EL} (h : inB b 0 100000 = false) : logOkB b bt l = false := by simp [logOkB, h]
theorem logOk_2 {b bt : Int} {l : EL} (h : inB bt 0 100000 = false) : logOkB b bt l = false := by simp [logOkB, h]
theorem logOk_3 {b bt : Int} {l : EL} (h : ¬ b + l.length ≤ 100000) : logOkB b bt l = false := by simp [logOkB, h]
theorem logOk_4 {b bt : Int} {l : EL} (h : entsOk bt l = false) : logOkB b bt l = false := by simp [logOkB, h]
theorem logOk_5 {b bt : Int} {l : EL} (h1 : inB b 0 100000 = true) (h2 : inB bt 0 100000 = true) (h3 : b + l.length ≤ 100000) (h : entsOk bt l = true) : logOkB b bt l = true := by simp [logOkB, h1, h2, h3, h]

theorem specLogOk_any (b bt : Int) (v : Value) (l : EL) (w : World) (h : Row w v l.length (flatE l)) (hn : l.length ≤ 1099511627776) :
  Calls Try.prog 47 #[lgV b bt v] w fun e w' => e = .returned (.bool (logOkB b bt l)) ∧ Below w.heap.size w w' := by
 obtain ⟨a, bb, off, cap, rfl, hcap, hmax, ha, hx0, hx1, hx2, hx3, hx4, hx5⟩ := h.ents
 unfold maxLen at hmax
 have N1 : Hid (MBox 24 (w.alloc (.cells #[.int .i64 b, .int .i64 bt, .slice a l.length cap] 24)) w.heap.size #[.int .i64 b, .int .i64 bt, .slice a l.length cap]) := MBox.start _ w _
 have B1 : Hid (Below w.heap.size w (w.alloc (.cells #[.int .i64 b, .int .i64 bt, .slice a l.length cap] 24))) := bel_nw _ _
 have c1 := N1.out.cells
 clear h
 cases h1 : inB b 0 100000 with
 | false =>
  have E : Hid (logOkB b bt l = false) := logOk_1 h1
  clear hx0 hx1 hx2 hx3 hx4 hx5 ha
  go_enter Try.func47, Try.ntmps47
  go_wp2_with (go_at_call 15; refine (l1In_any _ _ _ _).mono ?_; rintro e w' ⟨rfl, rfl⟩)
  go_ret
  exact ⟨ret_bool E.out.symm, B1.out⟩
 | true =>
 cases h2 : inB bt 0 100000 with
 | false =>
  have E : Hid (logOkB b bt l = false) := logOk_2 h2
  clear hx0 hx1 hx2 hx3 hx4 hx5 ha
  go_enter Try.func47, Try.ntmps47
  go_wp2_with (go_at_call 15; refine (l1In_any _ _ _ _).mono ?_; rintro e w' ⟨rfl, rfl⟩)
  go_ret
  exact ⟨ret_bool E.out.symm, B1.out⟩
 | true =>
 have hb0 := (inB_iff.1 h1).1
 have hb1 := (inB_iff.1 h1).2
 by_cases h3 : b + l.length ≤ 100000
 ·have HH : Hid _ := And.intro h1 (And.intro h2 h3)
  have hgt : ¬ (100000 : Int) < b + l.length := by omega
  go_enter Try.func47, Try.ntmps47
  go_wp2_with (go_at_call 15; refine (l1In_any _ _ _ _).mono ?_; rintro e w' ⟨rfl, rfl⟩)
  clear h1 h2 c1
  generalize w.alloc (.cells #[.int .i64 b, .int .i64 bt, .slice a l.length cap] 24) = W at *
  go_loopw [3, 4] (fun t i wr => ∃ j : Nat, j ≤ l.length ∧ i = .int .i64 j ∧ t = .int .i64 (prevT bt l j) ∧ Hid (∀ i, i < j → entAt bt l i = true) ∧ Hid (Below W.heap.size W wr))
   (fun _ i _ => l.length - (intOf i).toNat)
  case atStart => exact ⟨0, Nat.zero_le _, rfl, rfl, fun i hi => absurd hi (Nat.not_lt_zero _), Below.refl _ _⟩
  case round =>
   obtain ⟨j, hjl, rfl, rfl, ALL, hbW⟩ := hrel
   have c1 := (N1.out.step hbW.out).cells
   have hb : Hid (Below w.heap.size w wr) := Below.and B1.out hbW.out
   by_cases hlt : j < l.length
   ·have hal := ha (by omega)
    subst hal
    have d0 : wr.cell? ⟨bb, off + j * 6, none⟩ = some (.int .i64 (eT l j)) := (hb.out.cell (by exact cell_lt (hx0 j hlt))).trans (hx0 j hlt)
    have d1 : wr.cell? ⟨bb, off + j * 6 + 1, none⟩ = some (.int .i64 (eC l j)) := (hb.out.cell (by exact cell_lt (hx1 j hlt))).trans (hx1 j hlt)
    have d2 : wr.cell? ⟨bb, off + j * 6 + 2, none⟩ = some (.int .i64 (eS l j)) := (hb.out.cell (by exact cell_lt (hx2 j hlt))).trans (hx2 j hlt)
    have d3 : wr.cell? ⟨bb, off + j * 6 + 3, none⟩ = some (.int .i64 (eO l j)) := (hb.out.cell (by exact cell_lt (hx3 j hlt))).trans (hx3 j hlt)
    have d4 : wr.cell? ⟨bb, off + j * 6 + 4, none⟩ = some (.int .i64 (eK l j)) := (hb.out.cell (by exact cell_lt (hx4 j hlt))).trans (hx4 j hlt)
    have d5 : wr.cell? ⟨bb, off + j * 6 + 5, none⟩ = some (.int .i64 (eV l j)) := (hb.out.cell (by exact cell_lt (hx5 j hlt))).trans (hx5 j hlt)
    clear hx1 hx2 hx3 hx4 hx5
    cases hT : inB (eT l j) (prevT bt l j) 100000 with
    | false =>
     have E : Hid (logOkB b bt l = false) := logOk_4 (entsOk_false hlt (entAt_t hT))
     clear hx0
     generalize prevT bt l j = pt at *
     go_wp2_with (go_at_call 15; refine (l1In_any _ _ _ _).mono ?_; rintro e w' ⟨rfl, rfl⟩)
     go_ret
     exact ⟨ret_bool E.out.symm, hb.out⟩
    | true =>
     generalize hpt : prevT bt l j = pt at *
     have HT : Hid (inB (eT l j) pt 100000 = true) := hT
     change Hid _ at hpt
     go_wp2_with (go_at_call 15; refine (l1In_any _ _ _ _).mono ?_; rintro e w' ⟨rfl, rfl⟩)
     refine (specCmdOk_any _ _ _ _ _ _).mono ?_
     rintro e w2 ⟨rfl, b2⟩
     have FW : Hid (Below W.heap.size W w2) := Below.and hbW.out b2
     have FB : Hid (Below w.heap.size w w2) := Below.and hb.out b2
     clear b2 d0 d1 d2 d3 d4 d5 c1 hT
     have c1 := (N1.out.step FW.out).cells
     have d0 : w2.cell? ⟨bb, off + j * 6, none⟩ = some (.int .i64 (eT l j)) := (FB.out.cell (by exact cell_lt (hx0 j hlt))).trans (hx0 j hlt)
     clear hx0
     generalize hC : cmdOkB (eC l j) (eS l j) (eO l j) (eK l j) (eV l j) = q
     cases q with
     | false =>
      have E : Hid (logOkB b bt l = false) := logOk_4 (entsOk_false hlt (entAt_c hC))
      clear hC
      go_wp2
      go_ret
      exact ⟨ret_bool E.out.symm, FB.out⟩
     | true =>
      have OK : Hid (entAt bt l j = true) := by
       have := HT.out
       rw [← hpt.out] at this
       exact entAt_y this hC
      clear hC
      go_wp2
      go_roundw
      case rel => exact ⟨j + 1, by omega, by go_num, by rw [prevT_succ], fun i hi => if h : i < j then ALL.out i h else by rw [show i = j by omega]; exact OK.out, FW.out⟩
      case measure => simp [intOf]; omega
   ·have E : Hid (logOkB b bt l = true) := logOk_5 HH.out.1 HH.out.2.1 HH.out.2.2 (entsOk_true (fun i hi => ALL.out i (by omega)))
    clear hx0 hx1 hx2 hx3 hx4 hx5
    go_wp2
    go_ret
    exact ⟨ret_bool E.out.symm, hb.out⟩
 ·have E : Hid (logOkB b bt l = false) := logOk_3 h3
  have hgt : (100000 : Int) < b + l.length := by omega
  clear hx0 hx1 hx2 hx3 hx4 hx5 ha h3
  go_enter Try.func47, Try.ntmps47
  go_wp2_with (go_at_call 15; refine (l1In_any _ _ _ _).mono ?_; rintro e w' ⟨rfl, rfl⟩)
  go_ret
  exact ⟨ret_bool E.out.symm, B1.out⟩
end
section
open Go.RowKit

def lastN (b : Int) (l : EL) : Int := if l.length = 0 then b else wrap64 (b + l.length)
abbrev lastV (b bt : Int) (l : EL) : Value := .tuple #[.int .i64 (lastN b l), .int .i64 (prevT bt l l.length)]
def newerB (b bt : Int) (l : EL) (la lt : Int) : Bool := decide (lt > prevT bt l l.length ∨ (lt = prevT bt l l.length ∧ la ≥ lastN b l))

theorem specLastOf_any (b bt : Int) (v : Value) (l : EL) (w : World) (h : Row w v l.length (flatE l)) :
  Calls Try.prog 48 #[lgV b bt v] w fun e w' => e = .returned (lastV b bt l) ∧ Below w.heap.size w w' := by
 obtain ⟨a, bb, off, cap, rfl, hcap, hmax, ha, hx0, hx1, hx2, hx3, hx4, hx5⟩ := h.ents
 unfold maxLen at hmax
 clear hx1 hx2 hx3 hx4 hx5
 have N1 : Hid (MBox 24 (w.alloc (.cells #[.int .i64 b, .int .i64 bt, .slice a l.length cap] 24)) w.heap.size #[.int .i64 b, .int .i64 bt, .slice a l.length cap]) := MBox.start _ w _
 have B1 : Hid (Below w.heap.size w (w.alloc (.cells #[.int .i64 b, .int .i64 bt, .slice a l.length cap] 24))) := bel_nw _ _
 have c1 := N1.out.cells
 clear h
 by_cases hz : l.length = 0
 ·have E1 : Hid (lastN b l = b) := if_pos hz
  have E2 : Hid (prevT bt l l.length = bt) := by show _ = _; rw [hz]; rfl
  have HZ : Hid _ := hz
  rw [hz] at c1 B1 ⊢
  rw [hz] at hcap
  clear hx0 ha hz
  go_enter Try.func48, Try.ntmps48
  go_wp2_with fail
  go_quiet (fail)
  go_wp2
  refine bodyPost_ret (v := .tuple #[.int .i64 b, .int .i64 bt]) (by simp [results, Try.results48, go_sem]) rfl ⟨?_, below_drewN B1.out _⟩
  show _ = Ending.returned (.tuple #[.int .i64 (lastN b l), .int .i64 (prevT bt l l.length)])
  rw [E1.out, E2.out]
 ·obtain ⟨n, hn⟩ : ∃ n, l.length = n + 1 := ⟨l.length - 1, by omega⟩
  have E1 : Hid (lastN b l = wrap64 (b + ((n + 1 : Nat) : Int))) := by show _ = _; unfold lastN; rw [if_neg hz, hn]
  have E2 : Hid (prevT bt l l.length = eT l n) := by show _ = _; rw [hn, prevT_succ]
  have hal := ha (by omega)
  subst hal
  have d0 : (w.alloc (.cells #[.int .i64 b, .int .i64 bt, .slice (some ⟨bb, off, none⟩) l.length cap] 24)).cell? ⟨bb, off + n * 6, none⟩ = some (.int .i64 (eT l n)) := (B1.out.cell (by exact cell_lt (hx0 n (by omega)))).trans (hx0 n (by omega))
  rw [hn] at c1 B1 d0 hcap ⊢
  clear hx0 ha hz N1
  have HN : Hid _ := hn
  clear hn
  go_enter Try.func48, Try.ntmps48
  go_wp2_with fail
  go_quiet (fail)
  go_wp2
  refine bodyPost_ret (v := .tuple #[.int .i64 (wrap64 (b + ((n + 1 : Nat) : Int))), .int .i64 (eT l n)]) (by simp [results, Try.results48, go_sem]) rfl ⟨?_, below_drewN B1.out _⟩
  show _ = Ending.returned (.tuple #[.int .i64 (lastN b l), .int .i64 (prevT bt l l.length)])
  rw [E1.out, E2.out]
end
section
open Go.RowKit

def I64 (x : Int) : Prop := -9223372036854775808 ≤ x ∧ x ≤ 9223372036854775807
def placeB (b : Int) (l : EL) (i : Int) : Option Nat := if b < i ∧ i - b - 1 < l.length then some (i - b - 1).toNat else none
def termB (b bt : Int) (l : EL) (i : Int) : Int := if i = b then bt else match placeB b l i with | some n => eT l n | none => -1

abbrev placeLV (o : Option Nat) : Value := match o with | some n => .tuple #[.int .i64 (n : Int), .bool true] | none => .tuple #[.int .i64 0, .bool false]
end
section
open Go.RowKit

theorem ownE_apart {w : World} {base e size n : Nat} {v : Value} {xs : List Value} (h : OwnE w base e size v n xs) {B : Nat} {c : Array Value} {t : Nat} (hB : w.heap[B]? = some (.cells c t (0, 0))) (ht : t ≠ e) {g : Nat} (hg : wrB v g) : ¬ g = B := by
 rintro rfl
 obtain ⟨kk, cc, hkk, hc0⟩ := hg
 rcases h with h | ⟨h1, h2, g', h3⟩
 ·obtain ⟨_, ⟨e1, _⟩ | ⟨g2, cap2, cur, e1, _, e2, _⟩⟩ := h
  ·rw [hkk] at e1; simp at e1
  ·rw [hkk] at e1
   simp at e1
   obtain ⟨rfl, rfl, rfl⟩ := e1
   rw [hB] at e2
   simp at e2
   exact ht e2.2
 ·rw [hkk] at h3; simp at h3; omega
def entsB (b : Int) (l : EL) (i : Int) : EL := match placeB b l i with | some n => l.drop n | none => []
end
section
open Go.RowKit

theorem markLog_any (b t : Int) (v : Value) (l : EL) (k : Int) (w : World) (h : w.ownsRow 0 82 6 v l.length (flatE l)) (hn : l.length ≤ 67108864) (hk0 : 0 ≤ k) (hk1 : k ≤ 671088640) :
  Calls Try.prog 27 #[lgV b t v, .int .i64 k] w fun e w' => e = .returned (.int .i64 (k + 6 * l.length)) ∧ w'.ownsRow 0 82 6 v l.length (flatE (marksE k l.length)) ∧ Chg (fun g => v.ownBlock = some g) w w' := by
 have C : Hid (∀ u, Below w.heap.size w u → Calls Try.prog 53 #[v, .int .i64 k] u fun e w' => e = .returned (.int .i64 (k + 6 * l.length)) ∧ w'.ownsRow 0 82 6 v l.length (flatE (marksE k l.length)) ∧ Chg (fun g => v.ownBlock = some g) u w') := fun u hu => markEntryS_any v l k u (owns_below h hu) hn hk0 hk1
 have B1 : Hid (Below w.heap.size w (w.alloc (.cells #[.int .i64 b, .int .i64 t, v] 24))) := bel_nw _ _
 clear h hk0 hk1
 generalize hll : l.length = ll at *
 clear hll
 generalize hkk : (k + 6 * (ll : Int)) = kk at *
 clear hkk
 go_enter Try.func27, Try.ntmps27
 go_wp2_with fail
 refine (C.out _ B1.out).mono ?_
 rintro e w1 ⟨rfl, o1, c1⟩
 have FIN : Hid _ := And.intro o1 ((Chg.of_below B1.out).trans c1 (fun g _ hg => hg))
 clear o1 c1
 go_wp2
 go_ret
 exact ⟨rfl, FIN.out⟩

theorem heldLog_any (b t : Int) (v : Value) (n : Nat) (k : Int) (w : World) (h : Row w v n (flatE (marksE k n))) (hn : n ≤ 67108864) (hk0 : 0 ≤ k) (hk1 : k ≤ 671088640) :
  Calls Try.prog 31 #[lgV b t v, .int .i64 k] w fun e w' => e = .returned (.int .i64 (k + 6 * n)) ∧ Below w.heap.size w w' := by
 have C : Hid (∀ u, Below w.heap.size w u → Calls Try.prog 56 #[v, .int .i64 k] u fun e w' => e = .returned (.int .i64 (k + 6 * n)) ∧ w' = u) := fun u hu => heldEntryS_any v n k u (h.below hu) hn hk0 hk1
 have B1 : Hid (Below w.heap.size w (w.alloc (.cells #[.int .i64 b, .int .i64 t, v] 24))) := bel_nw _ _
 have hk2 : ¬ (k + 6 * (n : Int) < 0) := by omega
 clear h hk0 hk1
 generalize hkk : (k + 6 * (n : Int)) = kk at *
 clear hkk
 go_enter Try.func31, Try.ntmps31
 go_wp2_with fail
 refine (C.out _ B1.out).mono ?_
 rintro e w1 ⟨rfl, rfl⟩
 go_wp2
 go_ret
 exact ⟨rfl, B1.out⟩
end
section
open Go.RowKit

theorem markLog_g (b t : Int) (v : Value) (l : EL) (lo : Nat) (k : Int) (w : World) (h : OwnE w lo 82 6 v l.length (flatE l)) (hn : l.length ≤ 67108864) (hk0 : 0 ≤ k) (hk1 : k ≤ 671088640) :
    Calls Try.prog 27 #[lgV b t v, .int .i64 k] w fun e w' => e = .returned (.int .i64 (k + 6 * l.length)) ∧ OwnE w' lo 82 6 v l.length (flatE (marksE k l.length)) ∧ Chg (fun g => wrB v g) w w' := by
  have B1 : Hid (Below w.heap.size w (w.alloc (.cells #[.int .i64 b, .int .i64 t, v] 24))) := bel_nw _ _
  have N1 := hid9c (MBox.start 24 w #[.int .i64 b, .int .i64 t, v])
  have c1 := N1.out.cells
  have C1 := hid9c (markEntryS_g lo v l k (w.alloc (.cells #[.int .i64 b, .int .i64 t, v] 24)) (h.below B1.out) hn hk0 hk1)
  have CH : Hid (Chg (fun g => wrB v g) w (w.alloc (.cells #[.int .i64 b, .int .i64 t, v] 24))) := (Chg.refl _ _).alloc _
  obtain ⟨a, cap, hv⟩ := h.slice
  clear h hv
  go_enter Try.func27, Try.ntmps27
  go_wp2_with fail
  generalize w.alloc (.cells #[.int .i64 b, .int .i64 t, v] 24) = W at *
  refine C1.out.mono ?_
  rintro e w1 ⟨rfl, o1, g1⟩
  have FIN : Hid _ := And.intro o1 (CH.out.trans g1 (fun g _ hg => hg))
  clear o1 g1 c1 C1 CH N1 B1
  go_wp2
  go_ret
  exact ⟨rfl, FIN.out⟩

def markD (n : Nat) (k : Int) (D : Nd) : Nd :=
  ⟨marksE k D.l.length, markTr n (k + 6 * D.l.length) D.T1, marksD (k + 6 * D.l.length + (mkT n D.T1 : Nat)) D.d1.length,
   marksL (k + 6 * D.l.length + (mkT n D.T1 : Nat) + 4 * D.d1.length) D.vs.length,
   marksI (k + 6 * D.l.length + (mkT n D.T1 : Nat) + 4 * D.d1.length + D.vs.length) D.nx.length,
   marksI (k + 6 * D.l.length + (mkT n D.T1 : Nat) + 4 * D.d1.length + D.vs.length + D.nx.length) D.mt.length,
   markTr n (k + 6 * D.l.length + (mkT n D.T1 : Nat) + 4 * D.d1.length + D.vs.length + D.nx.length + D.mt.length) D.T2,
   marksD (k + 6 * D.l.length + (mkT n D.T1 : Nat) + 4 * D.d1.length + D.vs.length + D.nx.length + D.mt.length + (mkT n D.T2 : Nat)) D.d2.length⟩
def NodDh (n : Nat) (w : World) (lo hi : Nat) (N : NodV) (D : Nd) : Prop :=
  ∃ c1 c2 c3 c4 c5 c6 : Nat, lo ≤ c1 ∧ c1 ≤ c2 ∧ c2 ≤ c3 ∧ c3 ≤ c4 ∧ c4 ≤ c5 ∧ c5 ≤ c6 ∧ c6 ≤ hi ∧ hi ≤ w.heap.size ∧
    OwnI w lo c1 82 6 N.lv D.l.length (flatE D.l) ∧ MacI n w c1 c2 N.s D.T1 D.d1 ∧ OwnI w c2 c3 4 1 N.vv D.vs.length (flatL D.vs) ∧ OwnI w c3 c4 3 1 N.nv D.nx.length (flatI D.nx) ∧ OwnI w c4 c5 3 1 N.mv D.mt.length (flatI D.mt) ∧ MacI n w c5 c6 N.o D.T2 D.d2
theorem NodDh.d {n : Nat} {w : World} {lo hi : Nat} {N : NodV} {D : Nd} (h : NodDh n w lo hi N D) : NodD n w lo N D := by
  obtain ⟨c1, c2, c3, c4, c5, c6, h1, h2, h3, h4, h5, h6, h7, h8, o⟩ := h
  exact ⟨c1, c2, c3, c4, c5, c6, h1, h2, h3, h4, h5, h6, Nat.le_trans h7 h8, o⟩
theorem NodDh.at {n : Nat} {w : World} {lo hi : Nat} {N : NodV} {D : Nd} (h : NodDh n w lo hi N D) : NodAt n w N D := h.d.at
def markK (n : Nat) (k : Int) (D : Nd) : Int := k + 6 * D.l.length + (mkT n D.T1 : Nat) + 4 * D.d1.length + D.vs.length + D.nx.length + D.mt.length + (mkT n D.T2 : Nat) + 4 * D.d2.length

theorem markNode_d (n : Nat) (N : NodV) (D : Nd) (lo hi : Nat) (k : Int) (w : World) (h : NodDh n w lo hi N D) (hk0 : 0 ≤ k) (hk1 : markK n k D ≤ 67108864) :
    Calls Try.prog 8 #[N.val, .int .i64 k] w fun e w' => e = .returned (.int .i64 (markK n k D)) ∧ NodDh n w' lo hi N (markD n k D) ∧ Chg (fun g => lo ≤ g ∧ g < hi) w w' := by
  unfold markK at *
  obtain ⟨id, te, vo, lb, lt, lv, ⟨⟨sl, sp, sc, sk, sb⟩, sv⟩, ro, vv, nv, mv, cm, ⟨⟨ol, op, oc, ok, ob⟩, ov⟩⟩ := N
  obtain ⟨l, T1, d1, vs, nx, mt, T2, d2⟩ := D
  obtain ⟨e1, e2, e3, e4, e5, e6, h1, h2, h3, h4, h5, h6, h8, h9, o1, o2, o3, o4, o5, o6⟩ := h
  have h7 : e6 ≤ w.heap.size := Nat.le_trans h8 h9
  simp only at hk1 o1 o2 o3 o4 o5 o6 ⊢
  have P1 : Hid (∀ u, OwnI u lo e1 82 6 lv l.length (flatE l) → Calls Try.prog 27 #[lgV lb lt lv, .int .i64 k] u fun e w' => e = .returned (.int .i64 (k + 6 * l.length)) ∧ OwnI w' lo e1 82 6 lv l.length (flatE (marksE k l.length)) ∧ Chg (fun g => lo ≤ g ∧ g < e1) u w') := fun u hu => (markLog_g lb lt lv l lo k u hu.1 (by omega) hk0 (by omega)).mono (fun e w' ⟨a, b, c⟩ => ⟨a, ⟨b, hu.2⟩, c.mono (fun g _ hg => ⟨(hu.1.lt g hg).1, hu.2 g hg⟩)⟩)
  have P2 : Hid (∀ u, e2 ≤ u.heap.size → MacI n u e1 e2 ⟨⟨sl, sp, sc, sk, sb⟩, sv⟩ T1 d1 → Calls Try.prog 28 #[.agg #[.bool sl, sp, sc, sk, sb, sv], .int .i64 (k + 6 * l.length)] u fun e w' => e = .returned (.int .i64 (k + 6 * l.length + (mkT n T1 : Nat) + 4 * d1.length)) ∧ MacI n w' e1 e2 ⟨⟨sl, sp, sc, sk, sb⟩, sv⟩ (markTr n (k + 6 * l.length) T1) (marksD (k + 6 * l.length + (mkT n T1 : Nat)) d1.length) ∧ Chg (fun g => e1 ≤ g ∧ g < e2) u w') := fun u hs hu => markMachine_d n ⟨⟨sl, sp, sc, sk, sb⟩, sv⟩ T1 d1 _ (k + 6 * l.length) u hu (fun g hg => by omega) (by omega) (by omega)
  have P3 : Hid (∀ u, OwnI u e2 e3 4 1 vv vs.length (flatL vs) → Calls Try.prog 29 #[vv, .int .i64 (k + 6 * l.length + (mkT n T1 : Nat) + 4 * d1.length)] u fun e w' => e = .returned (.int .i64 (k + 6 * l.length + (mkT n T1 : Nat) + 4 * d1.length + vs.length)) ∧ OwnI w' e2 e3 4 1 vv vs.length (flatL (marksL (k + 6 * l.length + (mkT n T1 : Nat) + 4 * d1.length) vs.length)) ∧ Chg (fun g => e2 ≤ g ∧ g < e3) u w') := fun u hu => (markBoolS_g e2 vv vs _ u hu.1 (by omega) (by omega) (by omega)).mono (fun e w' ⟨a, b, c⟩ => ⟨a, ⟨b, hu.2⟩, c.mono (fun g _ hg => ⟨(hu.1.lt g hg).1, hu.2 g hg⟩)⟩)
  have P4 : Hid (∀ u, OwnI u e3 e4 3 1 nv nx.length (flatI nx) → Calls Try.prog 30 #[nv, .int .i64 (k + 6 * l.length + (mkT n T1 : Nat) + 4 * d1.length + vs.length)] u fun e w' => e = .returned (.int .i64 (k + 6 * l.length + (mkT n T1 : Nat) + 4 * d1.length + vs.length + nx.length)) ∧ OwnI w' e3 e4 3 1 nv nx.length (flatI (marksI (k + 6 * l.length + (mkT n T1 : Nat) + 4 * d1.length + vs.length) nx.length)) ∧ Chg (fun g => e3 ≤ g ∧ g < e4) u w') := fun u hu => (markIntS_g e3 nv nx _ u hu.1 (by omega) (by omega) (by omega)).mono (fun e w' ⟨a, b, c⟩ => ⟨a, ⟨b, hu.2⟩, c.mono (fun g _ hg => ⟨(hu.1.lt g hg).1, hu.2 g hg⟩)⟩)
  have P5 : Hid (∀ u, OwnI u e4 e5 3 1 mv mt.length (flatI mt) → Calls Try.prog 30 #[mv, .int .i64 (k + 6 * l.length + (mkT n T1 : Nat) + 4 * d1.length + vs.length + nx.length)] u fun e w' => e = .returned (.int .i64 (k + 6 * l.length + (mkT n T1 : Nat) + 4 * d1.length + vs.length + nx.length + mt.length)) ∧ OwnI w' e4 e5 3 1 mv mt.length (flatI (marksI (k + 6 * l.length + (mkT n T1 : Nat) + 4 * d1.length + vs.length + nx.length) mt.length)) ∧ Chg (fun g => e4 ≤ g ∧ g < e5) u w') := fun u hu => (markIntS_g e4 mv mt _ u hu.1 (by omega) (by omega) (by omega)).mono (fun e w' ⟨a, b, c⟩ => ⟨a, ⟨b, hu.2⟩, c.mono (fun g _ hg => ⟨(hu.1.lt g hg).1, hu.2 g hg⟩)⟩)
  have P6 : Hid (∀ u, e6 ≤ u.heap.size → MacI n u e5 e6 ⟨⟨ol, op, oc, ok, ob⟩, ov⟩ T2 d2 → Calls Try.prog 28 #[.agg #[.bool ol, op, oc, ok, ob, ov], .int .i64 (k + 6 * l.length + (mkT n T1 : Nat) + 4 * d1.length + vs.length + nx.length + mt.length)] u fun e w' => e = .returned (.int .i64 (k + 6 * l.length + (mkT n T1 : Nat) + 4 * d1.length + vs.length + nx.length + mt.length + (mkT n T2 : Nat) + 4 * d2.length)) ∧ MacI n w' e5 e6 ⟨⟨ol, op, oc, ok, ob⟩, ov⟩ (markTr n (k + 6 * l.length + (mkT n T1 : Nat) + 4 * d1.length + vs.length + nx.length + mt.length) T2) (marksD (k + 6 * l.length + (mkT n T1 : Nat) + 4 * d1.length + vs.length + nx.length + mt.length + (mkT n T2 : Nat)) d2.length) ∧ Chg (fun g => e5 ≤ g ∧ g < e6) u w') := fun u hs hu => markMachine_d n ⟨⟨ol, op, oc, ok, ob⟩, ov⟩ T2 d2 _ (k + 6 * l.length + (mkT n T1 : Nat) + 4 * d1.length + vs.length + nx.length + mt.length) u hu (fun g hg => by omega) (by omega) (by omega)
  obtain ⟨av, qv, hvv, -⟩ := o3.row.len
  obtain ⟨an, qn, hnv, -⟩ := o4.row.len
  obtain ⟨am, qm, hmv, -⟩ := o5.row.len
  clear hvv hnv hmv
  have E1 : Hid (lo ≤ e1 ∧ e1 ≤ e2 ∧ e2 ≤ e3 ∧ e3 ≤ e4 ∧ e4 ≤ e5 ∧ e5 ≤ e6 ∧ e6 ≤ w.heap.size ∧ e6 ≤ hi ∧ hi ≤ w.heap.size) := ⟨h1, h2, h3, h4, h5, h6, h7, h8, h9⟩
  have B1 : Below w.heap.size w (w.alloc (.cells #[.int .i64 id, .int .i64 te, .int .i64 vo, .int .i64 lb, .int .i64 lt, lv, .bool sl, sp, sc, sk, sb, sv, .int .i64 ro, vv, nv, mv, .int .i64 cm, .bool ol, op, oc, ok, ob, ov] 36)) := bel_nw _ _
  have O1 := hid9c (o1.below B1)
  have O2 := hid9c (o2.below B1)
  have O3 := hid9c (o3.below B1)
  have O4 := hid9c (o4.below B1)
  have O5 := hid9c (o5.below B1)
  have O6 := hid9c (o6.below B1)
  have SZ : Hid (e6 ≤ (w.alloc (.cells #[.int .i64 id, .int .i64 te, .int .i64 vo, .int .i64 lb, .int .i64 lt, lv, .bool sl, sp, sc, sk, sb, sv, .int .i64 ro, vv, nv, mv, .int .i64 cm, .bool ol, op, oc, ok, ob, ov] 36)).heap.size) := Nat.le_trans h7 B1.size
  have N1 : Hid ((w.alloc (.cells #[.int .i64 id, .int .i64 te, .int .i64 vo, .int .i64 lb, .int .i64 lt, lv, .bool sl, sp, sc, sk, sb, sv, .int .i64 ro, vv, nv, mv, .int .i64 cm, .bool ol, op, oc, ok, ob, ov] 36)).heap[w.heap.size]? = some (.cells #[.int .i64 id, .int .i64 te, .int .i64 vo, .int .i64 lb, .int .i64 lt, lv, .bool sl, sp, sc, sk, sb, sv, .int .i64 ro, vv, nv, mv, .int .i64 cm, .bool ol, op, oc, ok, ob, ov] 36 (0, 0))) := MBox.start 36 w #[.int .i64 id, .int .i64 te, .int .i64 vo, .int .i64 lb, .int .i64 lt, lv, .bool sl, sp, sc, sk, sb, sv, .int .i64 ro, vv, nv, mv, .int .i64 cm, .bool ol, op, oc, ok, ob, ov]
  have CH : Hid (Chg (fun g => lo ≤ g ∧ g < hi) w (w.alloc (.cells #[.int .i64 id, .int .i64 te, .int .i64 vo, .int .i64 lb, .int .i64 lt, lv, .bool sl, sp, sc, sk, sb, sv, .int .i64 ro, vv, nv, mv, .int .i64 cm, .bool ol, op, oc, ok, ob, ov] 36))) := (Chg.refl _ _).alloc _
  clear h1 h2 h3 h4 h5 h6 h7 h8 h9 o1 o2 o3 o4 o5 o6 B1 hk0 hk1
  have c1 := fun j => cell_of_cells (j := j) N1.out
  generalize hq6 : k + 6 * l.length + (mkT n T1 : Nat) + 4 * d1.length + vs.length + nx.length + mt.length + (mkT n T2 : Nat) + 4 * d2.length = r6 at *
  generalize hq5 : k + 6 * l.length + (mkT n T1 : Nat) + 4 * d1.length + vs.length + nx.length + mt.length = r5 at *
  generalize hq4 : k + 6 * l.length + (mkT n T1 : Nat) + 4 * d1.length + vs.length + nx.length = r4 at *
  generalize hq3 : k + 6 * l.length + (mkT n T1 : Nat) + 4 * d1.length + vs.length = r3 at *
  generalize hq2 : k + 6 * l.length + (mkT n T1 : Nat) + 4 * d1.length = r2 at *
  generalize hq1 : k + 6 * l.length = r1 at *
  have HQ1 := hid9c hq1
  have HQ2 := hid9c hq2
  have HQ3 := hid9c hq3
  have HQ4 := hid9c hq4
  have HQ5 := hid9c hq5
  have HQ6 := hid9c hq6
  clear hq1 hq2 hq3 hq4 hq5 hq6
  show Calls Try.prog 8 #[.agg #[.int .i64 id, .int .i64 te, .int .i64 vo, .int .i64 lb, .int .i64 lt, lv, .bool sl, sp, sc, sk, sb, sv, .int .i64 ro, vv, nv, mv, .int .i64 cm, .bool ol, op, oc, ok, ob, ov], .int .i64 k] w _
  go_enter Try.func8, Try.ntmps8
  go_wp2_with fail
  generalize w.alloc (.cells #[.int .i64 id, .int .i64 te, .int .i64 vo, .int .i64 lb, .int .i64 lt, lv, .bool sl, sp, sc, sk, sb, sv, .int .i64 ro, vv, nv, mv, .int .i64 cm, .bool ol, op, oc, ok, ob, ov] 36) = W at *
  refine (P1.out _ O1.out).mono ?_
  rintro e w1 ⟨rfl, o, g⟩
  have q := E1.out
  replace SZ := hid9c (Nat.le_trans SZ.out g.size)
  replace O1 := hid9c o
  replace O2 := hid9c (O2.out.chg g (fun x a b c => by omega))
  replace O3 := hid9c (O3.out.chg g (fun x a b c => by omega))
  replace O4 := hid9c (O4.out.chg g (fun x a b c => by omega))
  replace O5 := hid9c (O5.out.chg g (fun x a b c => by omega))
  replace O6 := hid9c (O6.out.chg g (fun x a b c => by omega))
  replace N1 := hid9c (row_chg N1.out g (fun c => by omega))
  replace CH := hid9c (CH.out.trans g (fun x _ c => by omega))
  clear o g q c1
  have c1 := fun j => cell_of_cells (j := j) N1.out
  go_wp2_with fail
  refine (P2.out _ (by have q := E1.out; have s := SZ.out; omega) O2.out).mono ?_
  rintro e w2 ⟨rfl, o, g⟩
  have q := E1.out
  replace SZ := hid9c (Nat.le_trans SZ.out g.size)
  replace O1 := hid9c (O1.out.chg g (fun x a b c => by omega))
  replace O2 := hid9c o
  replace O3 := hid9c (O3.out.chg g (fun x a b c => by omega))
  replace O4 := hid9c (O4.out.chg g (fun x a b c => by omega))
  replace O5 := hid9c (O5.out.chg g (fun x a b c => by omega))
  replace O6 := hid9c (O6.out.chg g (fun x a b c => by omega))
  replace N1 := hid9c (row_chg N1.out g (fun c => by omega))
  replace CH := hid9c (CH.out.trans g (fun x _ c => by omega))
  clear o g q c1
  have c1 := fun j => cell_of_cells (j := j) N1.out
  go_wp2_with fail
  refine (P3.out _ O3.out).mono ?_
  rintro e w3 ⟨rfl, o, g⟩
  have q := E1.out
  replace SZ := hid9c (Nat.le_trans SZ.out g.size)
  replace O1 := hid9c (O1.out.chg g (fun x a b c => by omega))
  replace O2 := hid9c (O2.out.chg g (fun x a b c => by omega))
  replace O3 := hid9c o
  replace O4 := hid9c (O4.out.chg g (fun x a b c => by omega))
  replace O5 := hid9c (O5.out.chg g (fun x a b c => by omega))
  replace O6 := hid9c (O6.out.chg g (fun x a b c => by omega))
  replace N1 := hid9c (row_chg N1.out g (fun c => by omega))
  replace CH := hid9c (CH.out.trans g (fun x _ c => by omega))
  clear o g q c1
  have c1 := fun j => cell_of_cells (j := j) N1.out
  go_wp2_with fail
  refine (P4.out _ O4.out).mono ?_
  rintro e w4 ⟨rfl, o, g⟩
  have q := E1.out
  replace SZ := hid9c (Nat.le_trans SZ.out g.size)
  replace O1 := hid9c (O1.out.chg g (fun x a b c => by omega))
  replace O2 := hid9c (O2.out.chg g (fun x a b c => by omega))
  replace O3 := hid9c (O3.out.chg g (fun x a b c => by omega))
  replace O4 := hid9c o
  replace O5 := hid9c (O5.out.chg g (fun x a b c => by omega))
  replace O6 := hid9c (O6.out.chg g (fun x a b c => by omega))
  replace N1 := hid9c (row_chg N1.out g (fun c => by omega))
  replace CH := hid9c (CH.out.trans g (fun x _ c => by omega))
  clear o g q c1
  have c1 := fun j => cell_of_cells (j := j) N1.out
  go_wp2_with fail
  refine (P5.out _ O5.out).mono ?_
  rintro e w5 ⟨rfl, o, g⟩
  have q := E1.out
  replace SZ := hid9c (Nat.le_trans SZ.out g.size)
  replace O1 := hid9c (O1.out.chg g (fun x a b c => by omega))
  replace O2 := hid9c (O2.out.chg g (fun x a b c => by omega))
  replace O3 := hid9c (O3.out.chg g (fun x a b c => by omega))
  replace O4 := hid9c (O4.out.chg g (fun x a b c => by omega))
  replace O5 := hid9c o
  replace O6 := hid9c (O6.out.chg g (fun x a b c => by omega))
  replace N1 := hid9c (row_chg N1.out g (fun c => by omega))
  replace CH := hid9c (CH.out.trans g (fun x _ c => by omega))
  clear o g q c1
  have c1 := fun j => cell_of_cells (j := j) N1.out
  go_wp2_with fail
  refine (P6.out _ (by have q := E1.out; have s := SZ.out; omega) O6.out).mono ?_
  rintro e w6 ⟨rfl, o, g⟩
  have q := E1.out
  replace SZ := hid9c (Nat.le_trans SZ.out g.size)
  replace O1 := hid9c (O1.out.chg g (fun x a b c => by omega))
  replace O2 := hid9c (O2.out.chg g (fun x a b c => by omega))
  replace O3 := hid9c (O3.out.chg g (fun x a b c => by omega))
  replace O4 := hid9c (O4.out.chg g (fun x a b c => by omega))
  replace O5 := hid9c (O5.out.chg g (fun x a b c => by omega))
  replace O6 := hid9c o
  replace N1 := hid9c (row_chg N1.out g (fun c => by omega))
  replace CH := hid9c (CH.out.trans g (fun x _ c => by omega))
  clear o g q c1
  have c1 := fun j => cell_of_cells (j := j) N1.out
  go_wp2
  go_ret
  refine ⟨rfl, ?_, CH.out⟩
  obtain ⟨h1, h2, h3, h4, h5, h6, h7, h8, h9⟩ := E1.out
  refine ⟨e1, e2, e3, e4, e5, e6, h1, h2, h3, h4, h5, h6, h8, Nat.le_trans h9 CH.out.size, ?_, ?_, ?_, ?_, ?_, ?_⟩
  · show OwnI _ _ _ _ _ _ (marksE k l.length).length (flatE (marksE k l.length))
    rw [marksE_length]
    exact O1.out
  · show MacI _ _ _ _ _ (markTr n (k + 6 * l.length) T1) (marksD (k + 6 * l.length + (mkT n T1 : Nat)) d1.length)
    rw [HQ1.out]
    exact O2.out
  · show OwnI _ _ _ _ _ _ (marksL (k + 6 * l.length + (mkT n T1 : Nat) + 4 * d1.length) vs.length).length (flatL (marksL (k + 6 * l.length + (mkT n T1 : Nat) + 4 * d1.length) vs.length))
    rw [marksL_length, HQ1.out, HQ2.out]
    exact O3.out
  · show OwnI _ _ _ _ _ _ (marksI (k + 6 * l.length + (mkT n T1 : Nat) + 4 * d1.length + vs.length) nx.length).length (flatI (marksI (k + 6 * l.length + (mkT n T1 : Nat) + 4 * d1.length + vs.length) nx.length))
    rw [marksI_length, HQ1.out, HQ2.out, HQ3.out]
    exact O4.out
  · show OwnI _ _ _ _ _ _ (marksI (k + 6 * l.length + (mkT n T1 : Nat) + 4 * d1.length + vs.length + nx.length) mt.length).length (flatI (marksI (k + 6 * l.length + (mkT n T1 : Nat) + 4 * d1.length + vs.length + nx.length) mt.length))
    rw [marksI_length, HQ1.out, HQ2.out, HQ3.out, HQ4.out]
    exact O5.out
  · show MacI _ _ _ _ _ (markTr n (k + 6 * l.length + (mkT n T1 : Nat) + 4 * d1.length + vs.length + nx.length + mt.length) T2) (marksD (k + 6 * l.length + (mkT n T1 : Nat) + 4 * d1.length + vs.length + nx.length + mt.length + (mkT n T2 : Nat)) d2.length)
    rw [HQ1.out, HQ2.out, HQ3.out, HQ4.out, HQ5.out]
    exact O6.out
end
end Go.Proofs.Ytmdajbbpigbdcaa
