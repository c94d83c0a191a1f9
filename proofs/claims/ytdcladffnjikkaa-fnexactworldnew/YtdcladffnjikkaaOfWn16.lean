/-
  The laws' functions that write marks into a machine, and look for them.
  LogOk of both sides.
  LastOf and Newer of both sides.
  TermAt of both sides, and where an entry stands (placeOf).
  Parts of a list of entries: a slice of it leads to a part of it.
  markLog, heldLog; what marks leave as it is.
  The laws' functions that write marks into a node, and look for them.
  What nodes tell each other, in memory: the laws' own functions that measure and compare it.
  The laws' measures of a node and of what is told, with all that they take.
  toRpc: what is told, copied out of the law's own kind, owns its memory.
  Lists of structs that hold lists of their own: the elements of a world.
-/
import Derived.Test.YtdcladffnjikkaaOfWn13
import Derived.Test.YtdcladffnjikkaaOfWn15
import Derived.Test.YtdcladffnjikkaaOfWn8
import Derived.Test.YtdcladffnjikkaaOfWn3
import Derived.BigQuiet
import Derived.Deep.DeepCutAuto
import Derived.Deep.CutBlock
import Derived.Deep.QuietTactic
import Derived.Test.YtdcladffnjikkaaOfWn7
import Derived.Test.YtdcladffnjikkaaOfWn2
import Derived.Test.YtdcladffnjikkaaOfWn4
import Derived.Test.YtdcladffnjikkaaOfWn12
namespace Go.Proofs.Ytdcladffnjikkaa
set_option maxRecDepth 100000
set_option maxHeartbeats 8000000
section
open Go.RowKit

theorem TreeD.off {b E s k : Nat} {v : Value} {ys : List Value} (h1 : E ≠ 103) (h2 : E ≠ 3) (h3 : E ≠ 73) (h4 : E ≠ 43) : ∀ {n : Nat} {w : World} {F : Nat → Prop} {x : TV} {T : Tr}, TreeD n w F x T → OwnE w b E s v k ys → TreeD n w (fun g => F g ∧ ¬ wrB v g) x T
 | 0, _, _, _, _, h, _ => h.elim
 | _ + 1, _, _, _, _, ⟨a1, a2, a3, a4, a5, xs, K, a6, a7, a8, a9, a10⟩, o => by
  refine ⟨a1, a2, a3, a4, fun g hg => ⟨a5 g hg, fun hv => ?_⟩, xs, fun i g => K i g ∧ ¬ wrB v g, a6, a7, fun i hi => (a8 i hi).off h1 h2 h3 h4 o, fun i g hi hg => ⟨⟨(a9 i g hi hg.1).1, hg.2⟩, (a9 i g hi hg.1).2⟩, fun i j g hij hj hg hg' => a10 i j g hij hj hg.1 hg'.1⟩
  rcases hg with hg | hg | hg | hg
  ·exact OwnE.apart o a2 h1 g hv hg
  ·exact OwnE.apart o a3 h2 g hv hg
  ·exact OwnE.apart o a4 h3 g hv hg
  ·exact OwnE.apart o a7 h4 g hv hg
end
section
open Go.RowKit

def prevT (bt : Int) (l : EL) (k : Nat) : Int := if k = 0 then bt else eT l (k - 1)
theorem prevT_succ (bt : Int) (l : EL) (k : Nat) : prevT bt l (k + 1) = eT l k := by simp [prevT]
def entAt (bt : Int) (l : EL) (k : Nat) : Bool := inB (eT l k) (prevT bt l k) 100000 && cmdOkB (eC l k) (eS l k) (eO l k) (eK l k) (eV l k)
def entsOk (bt : Int) (l : EL) : Bool := (List.range l.length).all (entAt bt l)
theorem entsOk_true {bt : Int} {l : EL} (h : ∀ k, k < l.length → entAt bt l k = true) : entsOk bt l = true := by
 unfold entsOk; rw [List.all_eq_true]; intro k hk; exact h k (List.mem_range.1 hk)
theorem entsOk_false {bt : Int} {l : EL} {k : Nat} (hk : k < l.length) (h : entAt bt l k = false) : entsOk bt l = false := by
 unfold entsOk; rw [List.all_eq_false]; exact ⟨k, List.mem_range.2 hk, by simp [h]⟩
theorem entAt_t {bt : Int} {l : EL} {k : Nat} (h : inB (eT l k) (prevT bt l k) 100000 = false) : entAt bt l k = false := by simp [entAt, h]
theorem entAt_c {bt : Int} {l : EL} {k : Nat} (h : cmdOkB (eC l k) (eS l k) (eO l k) (eK l k) (eV l k) = false) : entAt bt l k = false := by simp [entAt, h]
theorem entAt_y {bt : Int} {l : EL} {k : Nat} (h1 : inB (eT l k) (prevT bt l k) 100000 = true) (h : cmdOkB (eC l k) (eS l k) (eO l k) (eK l k) (eV l k) = true) : entAt bt l k = true := by simp [entAt, h1, h]
def logOkB (b bt : Int) (l : EL) : Bool := inB b 0 100000 && (inB bt 0 100000 && (decide (b + l.length ≤ 100000) && entsOk bt l))
theorem logOk_1 {b bt : Int} {l : EL} (h : inB b 0 100000 = false) : logOkB b bt l = false := by simp [logOkB, h]
theorem logOk_2 {b bt : Int} {l : EL} (h : inB bt 0 100000 = false) : logOkB b bt l = false := by simp [logOkB, h]
theorem logOk_3 {b bt : Int} {l : EL} (h : ¬ b + l.length ≤ 100000) : logOkB b bt l = false := by simp [logOkB, h]
theorem logOk_4 {b bt : Int} {l : EL} (h : entsOk bt l = false) : logOkB b bt l = false := by simp [logOkB, h]
theorem logOk_5 {b bt : Int} {l : EL} (h1 : inB b 0 100000 = true) (h2 : inB bt 0 100000 = true) (h3 : b + l.length ≤ 100000) (h : entsOk bt l = true) : logOkB b bt l = true := by simp [logOkB, h1, h2, h3, h]

theorem specLogOk_any (b bt : Int) (v : Value) (l : EL) (w : World) (h : Row w v l.length (flatE l)) (hn : l.length ≤ 1099511627776) :
  Calls Try.prog 52 #[lgV b bt v] w fun e w' => e = .returned (.bool (logOkB b bt l)) ∧ Below w.heap.size w w' := by
 obtain ⟨a, bb, off, cap, rfl, hcap, hmax, ha, hx0, hx1, hx2, hx3, hx4, hx5⟩ := h.ents
 unfold maxLen at hmax
 have N1 : Hid (MBox 37 (w.alloc (.cells #[.int .i64 b, .int .i64 bt, .slice a l.length cap] 37)) w.heap.size #[.int .i64 b, .int .i64 bt, .slice a l.length cap]) := MBox.start _ w _
 have B1 : Hid (Below w.heap.size w (w.alloc (.cells #[.int .i64 b, .int .i64 bt, .slice a l.length cap] 37))) := bel_nw _ _
 have c1 := N1.out.cells
 clear h
 cases h1 : inB b 0 100000 with
 | false =>
  have E : Hid (logOkB b bt l = false) := logOk_1 h1
  clear hx0 hx1 hx2 hx3 hx4 hx5 ha
  go_enter Try.func52, Try.ntmps52
  go_wp2_with (go_at_call 9; refine (l1In_any _ _ _ _).mono ?_; rintro e w' ⟨rfl, rfl⟩)
  go_ret
  exact ⟨ret_bool E.out.symm, B1.out⟩
 | true =>
 cases h2 : inB bt 0 100000 with
 | false =>
  have E : Hid (logOkB b bt l = false) := logOk_2 h2
  clear hx0 hx1 hx2 hx3 hx4 hx5 ha
  go_enter Try.func52, Try.ntmps52
  go_wp2_with (go_at_call 9; refine (l1In_any _ _ _ _).mono ?_; rintro e w' ⟨rfl, rfl⟩)
  go_ret
  exact ⟨ret_bool E.out.symm, B1.out⟩
 | true =>
 have hb0 := (inB_iff.1 h1).1
 have hb1 := (inB_iff.1 h1).2
 by_cases h3 : b + l.length ≤ 100000
 ·have HH : Hid _ := And.intro h1 (And.intro h2 h3)
  have hgt : ¬ (100000 : Int) < b + l.length := by omega
  go_enter Try.func52, Try.ntmps52
  go_wp2_with (go_at_call 9; refine (l1In_any _ _ _ _).mono ?_; rintro e w' ⟨rfl, rfl⟩)
  clear h1 h2 c1
  generalize w.alloc (.cells #[.int .i64 b, .int .i64 bt, .slice a l.length cap] 37) = W at *
  go_loopw [3, 4] (fun t i wr => ∃ j : Nat, j ≤ l.length ∧ i = .int .i64 j ∧ t = .int .i64 (prevT bt l j) ∧ Hid (∀ i, i < j → entAt bt l i = true) ∧ Hid (Below W.heap.size W wr))
   (fun _ i _ => l.length - (intOf i).toNat)
  case atStart => exact ⟨0, Nat.zero_le _, rfl, rfl, fun i hi => absurd hi (Nat.not_lt_zero _), Below.refl _ _⟩
  case round =>
   obtain ⟨j, hjl, rfl, rfl, ALL, hbW⟩ := hrel
   have c1 := (N1.out.step hbW.out).cells
   have hb : Hid (Below w.heap.size w wr) := Below.and B1.out hbW.out
   by_cases hlt : j < l.length
   ·have hal := ha (by omega)
    subst hal
    have d0 : wr.cell? ⟨bb, off + j * 6, none⟩ = some (.int .i64 (eT l j)) := (hb.out.cell (by exact cell_lt (hx0 j hlt))).trans (hx0 j hlt)
    have d1 : wr.cell? ⟨bb, off + j * 6 + 1, none⟩ = some (.int .i64 (eC l j)) := (hb.out.cell (by exact cell_lt (hx1 j hlt))).trans (hx1 j hlt)
    have d2 : wr.cell? ⟨bb, off + j * 6 + 2, none⟩ = some (.int .i64 (eS l j)) := (hb.out.cell (by exact cell_lt (hx2 j hlt))).trans (hx2 j hlt)
    have d3 : wr.cell? ⟨bb, off + j * 6 + 3, none⟩ = some (.int .i64 (eO l j)) := (hb.out.cell (by exact cell_lt (hx3 j hlt))).trans (hx3 j hlt)
    have d4 : wr.cell? ⟨bb, off + j * 6 + 4, none⟩ = some (.int .i64 (eK l j)) := (hb.out.cell (by exact cell_lt (hx4 j hlt))).trans (hx4 j hlt)
    have d5 : wr.cell? ⟨bb, off + j * 6 + 5, none⟩ = some (.int .i64 (eV l j)) := (hb.out.cell (by exact cell_lt (hx5 j hlt))).trans (hx5 j hlt)
    clear hx1 hx2 hx3 hx4 hx5
    cases hT : inB (eT l j) (prevT bt l j) 100000 with
    | false =>
     have E : Hid (logOkB b bt l = false) := logOk_4 (entsOk_false hlt (entAt_t hT))
     clear hx0
     generalize prevT bt l j = pt at *
     go_wp2_with (go_at_call 9; refine (l1In_any _ _ _ _).mono ?_; rintro e w' ⟨rfl, rfl⟩)
     go_ret
     exact ⟨ret_bool E.out.symm, hb.out⟩
    | true =>
     generalize hpt : prevT bt l j = pt at *
     have HT : Hid (inB (eT l j) pt 100000 = true) := hT
     change Hid _ at hpt
     go_wp2_with (go_at_call 9; refine (l1In_any _ _ _ _).mono ?_; rintro e w' ⟨rfl, rfl⟩)
     refine (specCmdOk_any _ _ _ _ _ _).mono ?_
     rintro e w2 ⟨rfl, b2⟩
     have FW : Hid (Below W.heap.size W w2) := Below.and hbW.out b2
     have FB : Hid (Below w.heap.size w w2) := Below.and hb.out b2
     clear b2 d0 d1 d2 d3 d4 d5 c1 hT
     have c1 := (N1.out.step FW.out).cells
     have d0 : w2.cell? ⟨bb, off + j * 6, none⟩ = some (.int .i64 (eT l j)) := (FB.out.cell (by exact cell_lt (hx0 j hlt))).trans (hx0 j hlt)
     clear hx0
     generalize hC : cmdOkB (eC l j) (eS l j) (eO l j) (eK l j) (eV l j) = q
     cases q with
     | false =>
      have E : Hid (logOkB b bt l = false) := logOk_4 (entsOk_false hlt (entAt_c hC))
      clear hC
      go_wp2
      go_ret
      exact ⟨ret_bool E.out.symm, FB.out⟩
     | true =>
      have OK : Hid (entAt bt l j = true) := by
       have := HT.out
       rw [← hpt.out] at this
       exact entAt_y this hC
      clear hC
      go_wp2
      go_roundw
      case rel => exact ⟨j + 1, by omega, by go_num, by rw [prevT_succ], fun i hi => if h : i < j then ALL.out i h else by rw [show i = j by omega]; exact OK.out, FW.out⟩
      case measure => simp [intOf]; omega
   ·have E : Hid (logOkB b bt l = true) := logOk_5 HH.out.1 HH.out.2.1 HH.out.2.2 (entsOk_true (fun i hi => ALL.out i (by omega)))
    clear hx0 hx1 hx2 hx3 hx4 hx5
    go_wp2
    go_ret
    exact ⟨ret_bool E.out.symm, hb.out⟩
 ·have E : Hid (logOkB b bt l = false) := logOk_3 h3
  have hgt : (100000 : Int) < b + l.length := by omega
  clear hx0 hx1 hx2 hx3 hx4 hx5 ha h3
  go_enter Try.func52, Try.ntmps52
  go_wp2_with (go_at_call 9; refine (l1In_any _ _ _ _).mono ?_; rintro e w' ⟨rfl, rfl⟩)
  go_ret
  exact ⟨ret_bool E.out.symm, B1.out⟩
end
section
open Go.RowKit

def lastN (b : Int) (l : EL) : Int := if l.length = 0 then b else wrap64 (b + l.length)
abbrev lastV (b bt : Int) (l : EL) : Value := .tuple #[.int .i64 (lastN b l), .int .i64 (prevT bt l l.length)]
def newerB (b bt : Int) (l : EL) (la lt : Int) : Bool := decide (lt > prevT bt l l.length ∨ (lt = prevT bt l l.length ∧ la ≥ lastN b l))

theorem specLastOf_any (b bt : Int) (v : Value) (l : EL) (w : World) (h : Row w v l.length (flatE l)) :
  Calls Try.prog 54 #[lgV b bt v] w fun e w' => e = .returned (lastV b bt l) ∧ Below w.heap.size w w' := by
 obtain ⟨a, bb, off, cap, rfl, hcap, hmax, ha, hx0, hx1, hx2, hx3, hx4, hx5⟩ := h.ents
 unfold maxLen at hmax
 clear hx1 hx2 hx3 hx4 hx5
 have N1 : Hid (MBox 37 (w.alloc (.cells #[.int .i64 b, .int .i64 bt, .slice a l.length cap] 37)) w.heap.size #[.int .i64 b, .int .i64 bt, .slice a l.length cap]) := MBox.start _ w _
 have B1 : Hid (Below w.heap.size w (w.alloc (.cells #[.int .i64 b, .int .i64 bt, .slice a l.length cap] 37))) := bel_nw _ _
 have c1 := N1.out.cells
 clear h
 by_cases hz : l.length = 0
 ·have E1 : Hid (lastN b l = b) := if_pos hz
  have E2 : Hid (prevT bt l l.length = bt) := by show _ = _; rw [hz]; rfl
  have HZ : Hid _ := hz
  rw [hz] at c1 B1 ⊢
  rw [hz] at hcap
  clear hx0 ha hz
  go_enter Try.func54, Try.ntmps54
  go_wp2_with fail
  go_quiet (fail)
  go_wp2
  refine bodyPost_ret (v := .tuple #[.int .i64 b, .int .i64 bt]) (by simp [results, Try.results54, go_sem]) rfl ⟨?_, below_drewN B1.out _⟩
  show _ = Ending.returned (.tuple #[.int .i64 (lastN b l), .int .i64 (prevT bt l l.length)])
  rw [E1.out, E2.out]
 ·obtain ⟨n, hn⟩ : ∃ n, l.length = n + 1 := ⟨l.length - 1, by omega⟩
  have E1 : Hid (lastN b l = wrap64 (b + ((n + 1 : Nat) : Int))) := by show _ = _; unfold lastN; rw [if_neg hz, hn]
  have E2 : Hid (prevT bt l l.length = eT l n) := by show _ = _; rw [hn, prevT_succ]
  have hal := ha (by omega)
  subst hal
  have d0 : (w.alloc (.cells #[.int .i64 b, .int .i64 bt, .slice (some ⟨bb, off, none⟩) l.length cap] 37)).cell? ⟨bb, off + n * 6, none⟩ = some (.int .i64 (eT l n)) := (B1.out.cell (by exact cell_lt (hx0 n (by omega)))).trans (hx0 n (by omega))
  rw [hn] at c1 B1 d0 hcap ⊢
  clear hx0 ha hz N1
  have HN : Hid _ := hn
  clear hn
  go_enter Try.func54, Try.ntmps54
  go_wp2_with fail
  go_quiet (fail)
  go_wp2
  refine bodyPost_ret (v := .tuple #[.int .i64 (wrap64 (b + ((n + 1 : Nat) : Int))), .int .i64 (eT l n)]) (by simp [results, Try.results54, go_sem]) rfl ⟨?_, below_drewN B1.out _⟩
  show _ = Ending.returned (.tuple #[.int .i64 (lastN b l), .int .i64 (prevT bt l l.length)])
  rw [E1.out, E2.out]
end
section
open Go.RowKit

def I64 (x : Int) : Prop := -9223372036854775808 ≤ x ∧ x ≤ 9223372036854775807
def placeB (b : Int) (l : EL) (i : Int) : Option Nat := if b < i ∧ i - b - 1 < l.length then some (i - b - 1).toNat else none
def termB (b bt : Int) (l : EL) (i : Int) : Int := if i = b then bt else match placeB b l i with | some n => eT l n | none => -1

abbrev placeLV (o : Option Nat) : Value := match o with | some n => .tuple #[.int .i64 (n : Int), .bool true] | none => .tuple #[.int .i64 0, .bool false]
end
section
open Go.RowKit

theorem ownE_apart {w : World} {base e size n : Nat} {v : Value} {xs : List Value} (h : OwnE w base e size v n xs) {B : Nat} {c : Array Value} {t : Nat} (hB : w.heap[B]? = some (.cells c t (0, 0))) (ht : t ≠ e) {g : Nat} (hg : wrB v g) : ¬ g = B := by
 rintro rfl
 obtain ⟨kk, cc, hkk, hc0⟩ := hg
 rcases h with h | ⟨h1, h2, g', h3⟩
 ·obtain ⟨_, ⟨e1, _⟩ | ⟨g2, cap2, cur, e1, _, e2, _⟩⟩ := h
  ·rw [hkk] at e1; simp at e1
  ·rw [hkk] at e1
   simp at e1
   obtain ⟨rfl, rfl, rfl⟩ := e1
   rw [hB] at e2
   simp at e2
   exact ht e2.2
 ·rw [hkk] at h3; simp at h3; omega
def entsB (b : Int) (l : EL) (i : Int) : EL := match placeB b l i with | some n => l.drop n | none => []
end
section
open Go.RowKit
end
section
open Go.RowKit

def markD (n : Nat) (k : Int) (D : Nd) : Nd :=
  ⟨marksE k D.l.length, markTr n (k + 6 * D.l.length) D.T1, marksD (k + 6 * D.l.length + (mkT n D.T1 : Nat)) D.d1.length,
   marksL (k + 6 * D.l.length + (mkT n D.T1 : Nat) + 4 * D.d1.length) D.vs.length,
   marksI (k + 6 * D.l.length + (mkT n D.T1 : Nat) + 4 * D.d1.length + D.vs.length) D.nx.length,
   marksI (k + 6 * D.l.length + (mkT n D.T1 : Nat) + 4 * D.d1.length + D.vs.length + D.nx.length) D.mt.length,
   markTr n (k + 6 * D.l.length + (mkT n D.T1 : Nat) + 4 * D.d1.length + D.vs.length + D.nx.length + D.mt.length) D.T2,
   marksD (k + 6 * D.l.length + (mkT n D.T1 : Nat) + 4 * D.d1.length + D.vs.length + D.nx.length + D.mt.length + (mkT n D.T2 : Nat)) D.d2.length⟩
def NodDh (n : Nat) (w : World) (lo hi : Nat) (N : NodV) (D : Nd) : Prop :=
  ∃ c1 c2 c3 c4 c5 c6 : Nat, lo ≤ c1 ∧ c1 ≤ c2 ∧ c2 ≤ c3 ∧ c3 ≤ c4 ∧ c4 ≤ c5 ∧ c5 ≤ c6 ∧ c6 ≤ hi ∧ hi ≤ w.heap.size ∧
    OwnI w lo c1 101 6 N.lv D.l.length (flatE D.l) ∧ MacI n w c1 c2 N.s D.T1 D.d1 ∧ OwnI w c2 c3 4 1 N.vv D.vs.length (flatL D.vs) ∧ OwnI w c3 c4 3 1 N.nv D.nx.length (flatI D.nx) ∧ OwnI w c4 c5 3 1 N.mv D.mt.length (flatI D.mt) ∧ MacI n w c5 c6 N.o D.T2 D.d2
def markK (n : Nat) (k : Int) (D : Nd) : Int := k + 6 * D.l.length + (mkT n D.T1 : Nat) + 4 * D.d1.length + D.vs.length + D.nx.length + D.mt.length + (mkT n D.T2 : Nat) + 4 * D.d2.length
end
section
open Go.RowKit

structure RpcV where
 kd : Int
 fr : Int
 tt : Int
 te : Int
 ix : Int
 it : Int
 cm : Int
 ok : Bool
 ev : Value
 s : MacV
abbrev RpcV.val (R : RpcV) : Value := .agg #[.int .i64 R.kd, .int .i64 R.fr, .int .i64 R.tt, .int .i64 R.te, .int .i64 R.ix, .int .i64 R.it, .int .i64 R.cm, .bool R.ok, R.ev, .bool R.s.x.lf, R.s.x.p, R.s.x.c, R.s.x.k, R.s.x.b, R.s.v]
structure Rd where
 l : EL
 T : Tr
 d : DL
def RpcAt (n : Nat) (w : World) (R : RpcV) (D : Rd) : Prop := Row w R.ev D.l.length (flatE D.l) ∧ MacAt n w R.s D.T D.d
theorem RpcAt.below {n : Nat} {w w' : World} {R : RpcV} {D : Rd} (h : RpcAt n w R D) (hb : Below w.heap.size w w') : RpcAt n w' R D := ⟨h.1.below hb, h.2.below hb⟩
def Rd.small (n : Nat) (D : Rd) : Prop := D.l.length ≤ 1048576 ∧ sizeT n D.T ≤ 1048576 ∧ D.d.length ≤ 1048576

def RpcV.like (R S : RpcV) : Prop := R.kd = S.kd ∧ R.fr = S.fr ∧ R.tt = S.tt ∧ R.te = S.te ∧ R.ix = S.ix ∧ R.it = S.it ∧ R.cm = S.cm ∧ R.ok = S.ok
theorem eqRpc_any (n : Nat) (R S : RpcV) (D : Rd) (w : World) (hl : R.like S) (h : RpcAt n w R D) (h2 : RpcAt n w S D) :
  Calls Try.prog 35 #[R.val, S.val] w fun e w' => e = .returned (.bool true) ∧ Below w.heap.size w w' := by
 obtain ⟨kd1, fr1, tt1, te1, ix1, it1, cm1, ok1, ev1, ⟨⟨sl1, sp1, sc1, sk1, sb1⟩, sv1⟩⟩ := R
 obtain ⟨kd2, fr2, tt2, te2, ix2, it2, cm2, ok2, ev2, ⟨⟨sl2, sp2, sc2, sk2, sb2⟩, sv2⟩⟩ := S
 obtain ⟨e1, e2, e3, e4, e5, e6, e7, e8⟩ := hl
 simp only at e1 e2 e3 e4 e5 e6 e7 e8
 subst e1 e2 e3 e4 e5 e6 e7 e8
 have H : Hid _ := And.intro h h2
 have K1 : Hid (∀ u, Below w.heap.size w u → Calls Try.prog 61 #[ev1, ev2] u fun e w' => e = .returned (.bool true) ∧ Below u.heap.size u w') := fun u hu => (eqEntryS_any ev1 ev2 D.l D.l u (H.out.1.below hu).1 (H.out.2.below hu).1).mono (fun e w' ⟨he, hb⟩ => ⟨by rw [he]; simp, hb⟩)
 have K2 : Hid (∀ u, Below w.heap.size w u → Calls Try.prog 58 #[.agg #[.bool sl1, sp1, sc1, sk1, sb1, sv1], .agg #[.bool sl2, sp2, sc2, sk2, sb2, sv2]] u fun e w' => e = .returned (.bool true) ∧ Below u.heap.size u w') := fun u hu => eqMachine_any n ⟨⟨sl1, sp1, sc1, sk1, sb1⟩, sv1⟩ ⟨⟨sl2, sp2, sc2, sk2, sb2⟩, sv2⟩ D.T D.d u (H.out.1.below hu).2 (H.out.2.below hu).2
 have B1 : Hid (Below w.heap.size w ((w.alloc (.cells #[.int .i64 kd1, .int .i64 fr1, .int .i64 tt1, .int .i64 te1, .int .i64 ix1, .int .i64 it1, .int .i64 cm1, .bool ok1, ev1, .bool sl1, sp1, sc1, sk1, sb1, sv1] 70)).alloc (.cells #[.int .i64 kd1, .int .i64 fr1, .int .i64 tt1, .int .i64 te1, .int .i64 ix1, .int .i64 it1, .int .i64 cm1, .bool ok1, ev2, .bool sl2, sp2, sc2, sk2, sb2, sv2] 70))) := Below.and (bel_nw _ _) (bel_nw _ _)
 have N1 : Hid (MBox 70 ((w.alloc (.cells #[.int .i64 kd1, .int .i64 fr1, .int .i64 tt1, .int .i64 te1, .int .i64 ix1, .int .i64 it1, .int .i64 cm1, .bool ok1, ev1, .bool sl1, sp1, sc1, sk1, sb1, sv1] 70)).alloc (.cells #[.int .i64 kd1, .int .i64 fr1, .int .i64 tt1, .int .i64 te1, .int .i64 ix1, .int .i64 it1, .int .i64 cm1, .bool ok1, ev2, .bool sl2, sp2, sc2, sk2, sb2, sv2] 70)) w.heap.size #[.int .i64 kd1, .int .i64 fr1, .int .i64 tt1, .int .i64 te1, .int .i64 ix1, .int .i64 it1, .int .i64 cm1, .bool ok1, ev1, .bool sl1, sp1, sc1, sk1, sb1, sv1]) := (MBox.start _ w _).step (bel_nw _ _)
 have N2 : Hid (MBox 70 ((w.alloc (.cells #[.int .i64 kd1, .int .i64 fr1, .int .i64 tt1, .int .i64 te1, .int .i64 ix1, .int .i64 it1, .int .i64 cm1, .bool ok1, ev1, .bool sl1, sp1, sc1, sk1, sb1, sv1] 70)).alloc (.cells #[.int .i64 kd1, .int .i64 fr1, .int .i64 tt1, .int .i64 te1, .int .i64 ix1, .int .i64 it1, .int .i64 cm1, .bool ok1, ev2, .bool sl2, sp2, sc2, sk2, sb2, sv2] 70)) (w.heap.size + 1) #[.int .i64 kd1, .int .i64 fr1, .int .i64 tt1, .int .i64 te1, .int .i64 ix1, .int .i64 it1, .int .i64 cm1, .bool ok1, ev2, .bool sl2, sp2, sc2, sk2, sb2, sv2]) := by
  have := MBox.start 70 (w.alloc (.cells #[.int .i64 kd1, .int .i64 fr1, .int .i64 tt1, .int .i64 te1, .int .i64 ix1, .int .i64 it1, .int .i64 cm1, .bool ok1, ev1, .bool sl1, sp1, sc1, sk1, sb1, sv1] 70)) #[.int .i64 kd1, .int .i64 fr1, .int .i64 tt1, .int .i64 te1, .int .i64 ix1, .int .i64 it1, .int .i64 cm1, .bool ok1, ev2, .bool sl2, sp2, sc2, sk2, sb2, sv2]
  rw [World.size_alloc] at this
  exact this
 have c1 := N1.out.cells
 have d1 := N2.out.cells
 clear h h2 H
 have ho : (ok1 != ok1) = false := by cases ok1 <;> rfl
 show Calls Try.prog 35 #[.agg #[.int .i64 kd1, .int .i64 fr1, .int .i64 tt1, .int .i64 te1, .int .i64 ix1, .int .i64 it1, .int .i64 cm1, .bool ok1, ev1, .bool sl1, sp1, sc1, sk1, sb1, sv1], .agg #[.int .i64 kd1, .int .i64 fr1, .int .i64 tt1, .int .i64 te1, .int .i64 ix1, .int .i64 it1, .int .i64 cm1, .bool ok1, ev2, .bool sl2, sp2, sc2, sk2, sb2, sv2]] w _
 go_enter Try.func35, Try.ntmps35
 go_wp2_with fail
 generalize ((w.alloc (.cells #[.int .i64 kd1, .int .i64 fr1, .int .i64 tt1, .int .i64 te1, .int .i64 ix1, .int .i64 it1, .int .i64 cm1, .bool ok1, ev1, .bool sl1, sp1, sc1, sk1, sb1, sv1] 70)).alloc (.cells #[.int .i64 kd1, .int .i64 fr1, .int .i64 tt1, .int .i64 te1, .int .i64 ix1, .int .i64 it1, .int .i64 cm1, .bool ok1, ev2, .bool sl2, sp2, sc2, sk2, sb2, sv2] 70)) = W at *
 refine (K1.out _ B1.out).mono ?_
 rintro e w1 ⟨rfl, b1⟩
 replace B1 : Hid (Below w.heap.size w w1) := Below.and B1.out b1
 replace N1 : Hid (MBox 70 w1 w.heap.size #[.int .i64 kd1, .int .i64 fr1, .int .i64 tt1, .int .i64 te1, .int .i64 ix1, .int .i64 it1, .int .i64 cm1, .bool ok1, ev1, .bool sl1, sp1, sc1, sk1, sb1, sv1]) := N1.out.step b1
 replace N2 : Hid (MBox 70 w1 (w.heap.size + 1) #[.int .i64 kd1, .int .i64 fr1, .int .i64 tt1, .int .i64 te1, .int .i64 ix1, .int .i64 it1, .int .i64 cm1, .bool ok1, ev2, .bool sl2, sp2, sc2, sk2, sb2, sv2]) := N2.out.step b1
 clear b1 c1 d1
 have c1 := N1.out.cells
 have d1 := N2.out.cells
 go_wp2_with fail
 refine (K2.out _ B1.out).mono ?_
 rintro e w2 ⟨rfl, b2⟩
 replace B1 : Hid (Below w.heap.size w w2) := Below.and B1.out b2
 clear b2 c1 d1
 go_wp2
 go_ret
 exact ⟨rfl, B1.out⟩
end
section
open Go.RowKit

def Tk2 (m : Nat) (left r : Int) : Prop := r = -1 ∨ (0 ≤ r ∧ r + m ≤ left)
def Nd.all (n : Nat) (D : Nd) : Nat := D.l.length + (sizeT n D.T1 + D.d1.length) + D.vs.length + D.nx.length + D.mt.length + (sizeT n D.T2 + D.d2.length)
def Rd.all (n : Nat) (D : Rd) : Nat := D.l.length + (sizeT n D.T + D.d.length)
end
section
open Go.RowKit

def RpcOwn (n : Nat) (w : World) (base : Nat) (R : RpcV) (D : Rd) : Prop :=
 w.ownsRow base 101 6 R.ev D.l.length (flatE D.l) ∧ MacOwn n w base R.s D.T D.d
end
section
open Go.RowKit

def LsAt {ε : Type} (cs : ε → List Value) (At : World → ε → Prop) (w : World) (v : Value) (es : List ε) : Prop := Row w v es.length (es.map cs).flatten ∧ ∀ e ∈ es, At w e
theorem allK_map {ε : Type} {cs : ε → List Value} {K : Nat} (hK : ∀ e, (cs e).length = K) (es : List ε) : AllK K (es.map cs) := fun l hl => by
 obtain ⟨e, _, rfl⟩ := List.mem_map.1 hl
 exact hK e
theorem LsAt.parts {ε : Type} {cs : ε → List Value} {At : World → ε → Prop} {w : World} {v : Value} {es : List ε} {K : Nat} (hK : ∀ e, (cs e).length = K) (h : LsAt cs At w v es) :
  ∃ (a : Option Addr) (b off cap : Nat), v = .slice a es.length cap ∧ es.length ≤ cap ∧ cap ≤ maxLen ∧ (0 < es.length → a = some ⟨b, off, none⟩) ∧ ∀ u, Below w.heap.size w u → ∀ (i : Nat) (hi : i < es.length), u.rangeAt b (off + i * K) (cs es[i]) := by
 have h1 := h.1
 rw [show es.length = (es.map cs).length by simp] at h1
 obtain ⟨a, b, off, cap, q1, q2, q3, q4, q5⟩ := Row.rangeL (allK_map hK es) h1
 rw [List.length_map] at q1 q2 q4
 refine ⟨a, b, off, cap, q1, q2, q3, q4, fun u hu i hi => ?_⟩
 have := q5 u hu i (by simpa using hi)
 rwa [List.getElem_map] at this
theorem LsAt.below {ε : Type} {cs : ε → List Value} {At : World → ε → Prop} (hAt : ∀ w u e, At w e → Below w.heap.size w u → At u e) {w u : World} {v : Value} {es : List ε} (h : LsAt cs At w v es) (hb : Below w.heap.size w u) : LsAt cs At u v es :=
 ⟨h.1.below hb, fun e he => hAt w u e (h.2 e he) hb⟩
def LsLk {ε : Type} (lk : ε → ε → Prop) (es fs : List ε) : Prop := es.length = fs.length ∧ ∀ i (h : i < es.length) (h' : i < fs.length), lk es[i] fs[i]
def sumE {ε : Type} (f : ε → Nat) (es : List ε) (k : Nat) : Nat := ((es.take k).map f).sum
theorem sumE_succ {ε : Type} (f : ε → Nat) (es : List ε) (k : Nat) (h : k < es.length) : sumE f es (k + 1) = sumE f es k + f es[k] := by
 unfold sumE
 rw [List.take_succ_eq_append_getElem h, List.map_append, List.sum_append]
 simp
/-! the kinds -/
abbrev NodE := NodV × Nd
def nodC (e : NodE) : List Value := [.int .i64 e.1.id, .int .i64 e.1.te, .int .i64 e.1.vo, .int .i64 e.1.lb, .int .i64 e.1.lt, e.1.lv, .bool e.1.s.x.lf, e.1.s.x.p, e.1.s.x.c, e.1.s.x.k, e.1.s.x.b, e.1.s.v, .int .i64 e.1.ro, e.1.vv, e.1.nv, e.1.mv, .int .i64 e.1.cm, .bool e.1.o.x.lf, e.1.o.x.p, e.1.o.x.c, e.1.o.x.k, e.1.o.x.b, e.1.o.v]
def nodAt (n : Nat) (w : World) (e : NodE) : Prop := NodAt n w e.1 e.2
def nodOwn (n : Nat) (base : Nat) (w : World) (e : NodE) : Prop := NodOwn n w base e.1 e.2
def nodLk (e f : NodE) : Prop := e.1.like f.1 ∧ e.2 = f.2
def nodN (n : Nat) (e : NodE) : Nat := Nd.all n e.2
def nodZ : List Value := [.int .i64 0, .int .i64 0, .int .i64 0, .int .i64 0, .int .i64 0, .slice none 0 0, .bool false, .slice none 0 0, .slice none 0 0, .slice none 0 0, .slice none 0 0, .slice none 0 0, .int .i64 0, .slice none 0 0, .slice none 0 0, .slice none 0 0, .int .i64 0, .bool false, .slice none 0 0, .slice none 0 0, .slice none 0 0, .slice none 0 0, .slice none 0 0]
abbrev RpcE := RpcV × Rd
def rpcC (e : RpcE) : List Value := [.int .i64 e.1.kd, .int .i64 e.1.fr, .int .i64 e.1.tt, .int .i64 e.1.te, .int .i64 e.1.ix, .int .i64 e.1.it, .int .i64 e.1.cm, .bool e.1.ok, e.1.ev, .bool e.1.s.x.lf, e.1.s.x.p, e.1.s.x.c, e.1.s.x.k, e.1.s.x.b, e.1.s.v]
def rpcAt (n : Nat) (w : World) (e : RpcE) : Prop := RpcAt n w e.1 e.2
def rpcOwn (n : Nat) (base : Nat) (w : World) (e : RpcE) : Prop := RpcOwn n w base e.1 e.2
def rpcLk (e f : RpcE) : Prop := e.1.like f.1 ∧ e.2 = f.2
def rpcN (n : Nat) (e : RpcE) : Nat := Rd.all n e.2
def rpcZ : List Value := [.int .i64 0, .int .i64 0, .int .i64 0, .int .i64 0, .int .i64 0, .int .i64 0, .int .i64 0, .bool false, .slice none 0 0, .bool false, .slice none 0 0, .slice none 0 0, .slice none 0 0, .slice none 0 0, .slice none 0 0]
abbrev CmdE := Int × Int × Int × Int × Int
def cmdC (e : CmdE) : List Value := [.int .i64 e.1, .int .i64 e.2.1, .int .i64 e.2.2.1, .int .i64 e.2.2.2.1, .int .i64 e.2.2.2.2]
def cmdZ : List Value := [.int .i64 0, .int .i64 0, .int .i64 0, .int .i64 0, .int .i64 0]
abbrev LedE := Int × Int
def ledC (e : LedE) : List Value := [.int .i64 e.1, .int .i64 e.2]
def ledZ : List Value := [.int .i64 0, .int .i64 0]
def noAt {ε : Type} (_ : World) (_ : ε) : Prop := True
end
end Go.Proofs.Ytdcladffnjikkaa
