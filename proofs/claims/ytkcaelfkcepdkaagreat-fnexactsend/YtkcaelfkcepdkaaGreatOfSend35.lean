/-
  Marks of a world in memory of its own.
-/
import Derived.Test.YtkcaelfkcepdkaaGreatOfSend32
import Derived.Test.YtkcaelfkcepdkaaGreatOfSend33
import Derived.Test.YtkcaelfkcepdkaaGreatOfSend34
namespace Go.Proofs.YtkcaelfkcepdkaaGreat
set_option maxRecDepth 100000
set_option maxHeartbeats 8000000
section
open Go.RowKit

theorem OwnE.raise {w : World} {lo e size n : Nat} {v : Value} {xs : List Value} (h : OwnE w 0 e size v n xs) (hv : ∀ g, wrB v g → lo ≤ g) : OwnE w lo e size v n xs := by
 rcases h with h | h
 ·obtain ⟨hl, h | ⟨g, cap, cur, rfl, hg, hh, hn, hcap, hsz, htake⟩⟩ := h
  ·exact .inl ⟨hl, .inl h⟩
  ·rcases Nat.eq_zero_or_pos cap with h1 | h1
   ·subst h1
    have : n = 0 := by omega
    subst this
    exact .inr ⟨rfl, List.length_eq_zero_iff.1 (by omega), g, rfl⟩
   ·exact .inl ⟨hl, .inr ⟨g, cap, cur, rfl, hv g ⟨n, cap, rfl, h1⟩, hh, hn, hcap, hsz, htake⟩⟩
 ·exact .inr h
theorem LsI.markN {n : Nat} {w : World} {lo hi : Nat} {v : Value} {es : List NodE} (h : LsI nodC (nodI (n + 1)) noNod 73 23 w lo hi v es) (k : Int) (hk0 : 0 ≤ k) (hk1 : k + (sumE (nodK (n + 1)) es es.length : Nat) ≤ 67108864) :
  Calls Tryz.prog 41 #[v, .int .i64 k] w fun e w' => e = .returned (.int .i64 (k + (sumE (nodK (n + 1)) es es.length : Nat))) ∧ LsI nodC (nodI (n + 1)) noNod 73 23 w' lo hi v (nodMs (n + 1) k es) ∧ Chg (fun g => lo ≤ g ∧ g < hi) w w' := by
 obtain ⟨h1, h2, h3, h4, a, b, h5, h6⟩ := h
 refine (markNodeS_any n v es (fun i g => a i ≤ g ∧ g < b i) k w ⟨h1.mono (Nat.zero_le _), fun i hi => (h5 i hi).2.2.2.1, fun i j g hij hj hg hg' => by have := h6 i j hij hj; omega, fun i g hi hg => (h5 i hi).2.2.2.2 g hg.1 hg.2⟩ hk0 hk1).mono ?_
 rintro e w' ⟨r, -, q, c⟩
 have hl : (nodMs (n + 1) k es).length = es.length := by simp [nodMs]
 refine ⟨r, ⟨q.1.raise (fun g hg => (h1.lt g hg).1), h2, h3, Nat.le_trans h4 c.size, a, b, fun i hi => ?_, fun i j hij hj => h6 i j hij (by omega)⟩, c.mono (fun g _ hg => ?_)⟩
 ·obtain ⟨p1, p2, p3, _, p5⟩ := h5 i (by omega)
  exact ⟨p1, p2, p3, q.2.1 i hi, p5⟩
 ·rcases hg with hg | ⟨i, hi, hg⟩
  ·exact ⟨(h1.lt g hg).1, h2 g hg⟩
  ·have := h5 i hi; omega
theorem LsI.markR {n : Nat} {w : World} {lo hi : Nat} {v : Value} {es : List RpcE} (h : LsI rpcC (rpcI (n + 1)) noRpc 87 15 w lo hi v es) (k : Int) (hk0 : 0 ≤ k) (hk1 : k + (sumE (rpcK (n + 1)) es es.length : Nat) ≤ 67108864) :
  Calls Tryz.prog 14 #[v, .int .i64 k] w fun e w' => e = .returned (.int .i64 (k + (sumE (rpcK (n + 1)) es es.length : Nat))) ∧ LsI rpcC (rpcI (n + 1)) noRpc 87 15 w' lo hi v (rpcMs (n + 1) k es) ∧ Chg (fun g => lo ≤ g ∧ g < hi) w w' := by
 obtain ⟨h1, h2, h3, h4, a, b, h5, h6⟩ := h
 refine (markRpcS_any n v es (fun i g => a i ≤ g ∧ g < b i) k w ⟨h1.mono (Nat.zero_le _), fun i hi => (h5 i hi).2.2.2.1, fun i j g hij hj hg hg' => by have := h6 i j hij hj; omega, fun i g hi hg => (h5 i hi).2.2.2.2 g hg.1 hg.2⟩ hk0 hk1).mono ?_
 rintro e w' ⟨r, -, q, c⟩
 have hl : (rpcMs (n + 1) k es).length = es.length := by simp [rpcMs]
 refine ⟨r, ⟨q.1.raise (fun g hg => (h1.lt g hg).1), h2, h3, Nat.le_trans h4 c.size, a, b, fun i hi => ?_, fun i j hij hj => h6 i j hij (by omega)⟩, c.mono (fun g _ hg => ?_)⟩
 ·obtain ⟨p1, p2, p3, _, p5⟩ := h5 i (by omega)
  exact ⟨p1, p2, p3, q.2.1 i hi, p5⟩
 ·rcases hg with hg | ⟨i, hi, hg⟩
  ·exact ⟨(h1.lt g hg).1, h2 g hg⟩
  ·have := h5 i hi; omega
theorem LsI.markC {w : World} {lo hi : Nat} {v : Value} {es : List CmdE} (h : LsI cmdC noI noCmd 117 5 w lo hi v es) (k : Int) (hk0 : 0 ≤ k) (hk1 : k + 5 * (es.length : Nat) ≤ 67108864) :
  Calls Tryz.prog 42 #[v, .int .i64 k] w fun e w' => e = .returned (.int .i64 (k + 5 * (es.length : Nat))) ∧ LsI cmdC noI noCmd 117 5 w' lo hi v (cmdMs k es.length) ∧ Chg (fun g => lo ≤ g ∧ g < hi) w w' := by
 obtain ⟨h1, h2, h3, h4, a, b, h5, h6⟩ := h
 refine (markCmdS_any v es k w (h1.mono (Nat.zero_le _)) hk0 hk1).mono ?_
 rintro e w' ⟨r, q, c⟩
 have hl : (cmdMs k es.length).length = es.length := by simp [cmdMs]
 refine ⟨r, ⟨by rw [hl]; exact q.raise (fun g hg => (h1.lt g hg).1), h2, h3, Nat.le_trans h4 c.size, a, b, fun i hi => ?_, fun i j hij hj => h6 i j hij (by omega)⟩, c.mono (fun g _ hg => ⟨(h1.lt g hg).1, h2 g hg⟩)⟩
 obtain ⟨p1, p2, p3, _, p5⟩ := h5 i (by omega)
 exact ⟨p1, p2, p3, trivial, p5⟩
theorem LsI.markL {w : World} {lo hi : Nat} {v : Value} {es : List LedE} (h : LsI ledC noI noLead 121 2 w lo hi v es) (k : Int) (hk0 : 0 ≤ k) (hk1 : k + 2 * (es.length : Nat) ≤ 67108864) :
  Calls Tryz.prog 44 #[v, .int .i64 k] w fun e w' => e = .returned (.int .i64 (k + 2 * (es.length : Nat))) ∧ LsI ledC noI noLead 121 2 w' lo hi v (ledMs k es.length) ∧ Chg (fun g => lo ≤ g ∧ g < hi) w w' := by
 obtain ⟨h1, h2, h3, h4, a, b, h5, h6⟩ := h
 refine (markLeadS_any v es k w (h1.mono (Nat.zero_le _)) hk0 hk1).mono ?_
 rintro e w' ⟨r, q, c⟩
 have hl : (ledMs k es.length).length = es.length := by simp [ledMs]
 refine ⟨r, ⟨by rw [hl]; exact q.raise (fun g hg => (h1.lt g hg).1), h2, h3, Nat.le_trans h4 c.size, a, b, fun i hi => ?_, fun i j hij hj => h6 i j hij (by omega)⟩, c.mono (fun g _ hg => ⟨(h1.lt g hg).1, h2 g hg⟩)⟩
 obtain ⟨p1, p2, p3, _, p5⟩ := h5 i (by omega)
 exact ⟨p1, p2, p3, trivial, p5⟩
theorem OwnI.markD {w : World} {lo hi : Nat} {v : Value} {l : DL} (h : OwnI w lo hi 141 4 v l.length (flatD l)) (k : Int) (hk0 : 0 ≤ k) (hk1 : k + 4 * (l.length : Nat) ≤ 67108864) :
  Calls Tryz.prog 43 #[v, .int .i64 k] w fun e w' => e = .returned (.int .i64 (k + 4 * (l.length : Nat))) ∧ OwnI w' lo hi 141 4 v (marksD k l.length).length (flatD (marksD k l.length)) ∧ Chg (fun g => lo ≤ g ∧ g < hi) w w' := by
 refine (markDoneS_g lo v l k w h.1 (by omega) hk0 (by omega)).mono ?_
 rintro e w' ⟨r, q, c⟩
 exact ⟨r, ⟨by rw [marksD_length]; exact q, h.2⟩, c.mono (fun g _ hg => ⟨(h.1.lt g hg).1, h.2 g hg⟩)⟩

def wK1 (n : Nat) (k : Int) (D : Wd) : Int := k + (sumE (nodK n) D.ns D.ns.length : Nat)
def wK2 (n : Nat) (k : Int) (D : Wd) : Int := wK1 n k D + (sumE (rpcK n) D.rs D.rs.length : Nat)
def wK3 (n : Nat) (k : Int) (D : Wd) : Int := wK2 n k D + 5 * (D.cs.length : Nat)
def wK4 (n : Nat) (k : Int) (D : Wd) : Int := wK3 n k D + 4 * (D.ds.length : Nat)
def wK5 (n : Nat) (k : Int) (D : Wd) : Int := wK4 n k D + 2 * (D.ls.length : Nat)
def wMk (n : Nat) (k : Int) (D : Wd) : Wd := ⟨nodMs n k D.ns, rpcMs n (wK1 n k D) D.rs, cmdMs (wK2 n k D) D.cs.length, marksD (wK3 n k D) D.ds.length, ledMs (wK4 n k D) D.ls.length⟩

theorem markWorld_w (n : Nat) (W : WrV) (D : Wd) (lo hi : Nat) (k : Int) (w : World) (h : WrI (n + 1) w lo hi W D) (hk0 : 0 ≤ k) (hk1 : wK5 (n + 1) k D ≤ 67108864) :
  Calls Tryz.prog 13 #[W.val, .int .i64 k] w fun e w' => e = .returned (.int .i64 (wK5 (n + 1) k D)) ∧ WrI (n + 1) w' lo hi W (wMk (n + 1) k D) ∧ Chg (fun g => lo ≤ g ∧ g < hi) w w' := by
 have e1 : wK1 (n + 1) k D = k + (sumE (nodK (n + 1)) D.ns D.ns.length : Nat) := rfl
 have e2 : wK2 (n + 1) k D = wK1 (n + 1) k D + (sumE (rpcK (n + 1)) D.rs D.rs.length : Nat) := rfl
 have e3 : wK3 (n + 1) k D = wK2 (n + 1) k D + 5 * (D.cs.length : Nat) := rfl
 have e4 : wK4 (n + 1) k D = wK3 (n + 1) k D + 4 * (D.ds.length : Nat) := rfl
 have e5 : wK5 (n + 1) k D = wK4 (n + 1) k D + 2 * (D.ls.length : Nat) := rfl
 obtain ⟨a, b, h1, h2, h3, o0, o1, o2, o3, o4⟩ := h
 obtain ⟨sz, nv, rv, cv, av, lv⟩ := W
 simp only at o0 o1 o2 o3 o4
 obtain ⟨a0, q0, hz⟩ := o0.1.slice
 subst hz
 obtain ⟨a1, q1, hz⟩ := o1.1.slice
 subst hz
 obtain ⟨a2, q2, hz⟩ := o2.1.slice
 subst hz
 obtain ⟨a3, q3, hz⟩ := o3.1.slice
 subst hz
 obtain ⟨a4, q4, hz⟩ := o4.1.slice
 subst hz
 have hh : ∀ i, i < 5 → ∀ g, a i ≤ g → g < b i → lo ≤ g ∧ g < hi := fun i hi g g1 g2 => by have := h1 i hi; omega
 have ap : ∀ i j, i < 5 → j < 5 → i ≠ j → ∀ g, a i ≤ g → g < b i → ¬ (a j ≤ g ∧ g < b j) := fun i j hi hj hij g g1 g2 e => by have := h2 i j hi hj hij; omega
 refine (markWorld_c (k1 := wK1 (n + 1) k D) (k2 := wK2 (n + 1) k D) (k3 := wK3 (n + 1) k D) (k4 := wK4 (n + 1) k D) (k5 := wK5 (n + 1) k D) (Pm := fun g => lo ≤ g ∧ g < hi)
  (A0 := fun u => LsI nodC (nodI (n + 1)) noNod 73 23 u (a 0) (b 0) (.slice a0 D.ns.length q0) D.ns ∧ LsI rpcC (rpcI (n + 1)) noRpc 87 15 u (a 1) (b 1) (.slice a1 D.rs.length q1) D.rs ∧ LsI cmdC noI noCmd 117 5 u (a 2) (b 2) (.slice a2 D.cs.length q2) D.cs ∧ OwnI u (a 3) (b 3) 141 4 (.slice a3 D.ds.length q3) D.ds.length (flatD D.ds) ∧ LsI ledC noI noLead 121 2 u (a 4) (b 4) (.slice a4 D.ls.length q4) D.ls)
  (A1 := fun u => LsI nodC (nodI (n + 1)) noNod 73 23 u (a 0) (b 0) (.slice a0 D.ns.length q0) (nodMs (n + 1) k D.ns) ∧ LsI rpcC (rpcI (n + 1)) noRpc 87 15 u (a 1) (b 1) (.slice a1 D.rs.length q1) D.rs ∧ LsI cmdC noI noCmd 117 5 u (a 2) (b 2) (.slice a2 D.cs.length q2) D.cs ∧ OwnI u (a 3) (b 3) 141 4 (.slice a3 D.ds.length q3) D.ds.length (flatD D.ds) ∧ LsI ledC noI noLead 121 2 u (a 4) (b 4) (.slice a4 D.ls.length q4) D.ls)
  (A2 := fun u => LsI nodC (nodI (n + 1)) noNod 73 23 u (a 0) (b 0) (.slice a0 D.ns.length q0) (nodMs (n + 1) k D.ns) ∧ LsI rpcC (rpcI (n + 1)) noRpc 87 15 u (a 1) (b 1) (.slice a1 D.rs.length q1) (rpcMs (n + 1) (wK1 (n + 1) k D) D.rs) ∧ LsI cmdC noI noCmd 117 5 u (a 2) (b 2) (.slice a2 D.cs.length q2) D.cs ∧ OwnI u (a 3) (b 3) 141 4 (.slice a3 D.ds.length q3) D.ds.length (flatD D.ds) ∧ LsI ledC noI noLead 121 2 u (a 4) (b 4) (.slice a4 D.ls.length q4) D.ls)
  (A3 := fun u => LsI nodC (nodI (n + 1)) noNod 73 23 u (a 0) (b 0) (.slice a0 D.ns.length q0) (nodMs (n + 1) k D.ns) ∧ LsI rpcC (rpcI (n + 1)) noRpc 87 15 u (a 1) (b 1) (.slice a1 D.rs.length q1) (rpcMs (n + 1) (wK1 (n + 1) k D) D.rs) ∧ LsI cmdC noI noCmd 117 5 u (a 2) (b 2) (.slice a2 D.cs.length q2) (cmdMs (wK2 (n + 1) k D) D.cs.length) ∧ OwnI u (a 3) (b 3) 141 4 (.slice a3 D.ds.length q3) D.ds.length (flatD D.ds) ∧ LsI ledC noI noLead 121 2 u (a 4) (b 4) (.slice a4 D.ls.length q4) D.ls)
  (A4 := fun u => LsI nodC (nodI (n + 1)) noNod 73 23 u (a 0) (b 0) (.slice a0 D.ns.length q0) (nodMs (n + 1) k D.ns) ∧ LsI rpcC (rpcI (n + 1)) noRpc 87 15 u (a 1) (b 1) (.slice a1 D.rs.length q1) (rpcMs (n + 1) (wK1 (n + 1) k D) D.rs) ∧ LsI cmdC noI noCmd 117 5 u (a 2) (b 2) (.slice a2 D.cs.length q2) (cmdMs (wK2 (n + 1) k D) D.cs.length) ∧ OwnI u (a 3) (b 3) 141 4 (.slice a3 D.ds.length q3) (marksD (wK3 (n + 1) k D) D.ds.length).length (flatD (marksD (wK3 (n + 1) k D) D.ds.length)) ∧ LsI ledC noI noLead 121 2 u (a 4) (b 4) (.slice a4 D.ls.length q4) D.ls)
  (A5 := fun u => LsI nodC (nodI (n + 1)) noNod 73 23 u (a 0) (b 0) (.slice a0 D.ns.length q0) (nodMs (n + 1) k D.ns) ∧ LsI rpcC (rpcI (n + 1)) noRpc 87 15 u (a 1) (b 1) (.slice a1 D.rs.length q1) (rpcMs (n + 1) (wK1 (n + 1) k D) D.rs) ∧ LsI cmdC noI noCmd 117 5 u (a 2) (b 2) (.slice a2 D.cs.length q2) (cmdMs (wK2 (n + 1) k D) D.cs.length) ∧ OwnI u (a 3) (b 3) 141 4 (.slice a3 D.ds.length q3) (marksD (wK3 (n + 1) k D) D.ds.length).length (flatD (marksD (wK3 (n + 1) k D) D.ds.length)) ∧ LsI ledC noI noLead 121 2 u (a 4) (b 4) (.slice a4 D.ls.length q4) (ledMs (wK4 (n + 1) k D) D.ls.length))
  w (fun g hg => by omega) (fun u hb => ⟨o0.below (nodI_k _) hb, o1.below (rpcI_k _) hb, o2.below noI_k hb, o3.below hb, o4.below noI_k hb⟩)
  (fun u ⟨p0, p1, p2, p3, p4⟩ => (p0.markN k hk0 (by omega)).mono (fun e u' ⟨r, q, c⟩ => ⟨r, ⟨q, LsI.chg (rpcI_k _) p1 c (fun g g1 g2 e => ap 1 0 (by omega) (by omega) (by omega) g g1 g2 e), LsI.chg noI_k p2 c (fun g g1 g2 e => ap 2 0 (by omega) (by omega) (by omega) g g1 g2 e), p3.chg c (fun g g1 g2 e => ap 3 0 (by omega) (by omega) (by omega) g g1 g2 e), LsI.chg noI_k p4 c (fun g g1 g2 e => ap 4 0 (by omega) (by omega) (by omega) g g1 g2 e)⟩, c.mono (fun g _ hg => hh 0 (by omega) g hg.1 hg.2)⟩))
  (fun u ⟨p0, p1, p2, p3, p4⟩ => (p1.markR (wK1 (n + 1) k D) (by omega) (by omega)).mono (fun e u' ⟨r, q, c⟩ => ⟨r, ⟨LsI.chg (nodI_k _) p0 c (fun g g1 g2 e => ap 0 1 (by omega) (by omega) (by omega) g g1 g2 e), q, LsI.chg noI_k p2 c (fun g g1 g2 e => ap 2 1 (by omega) (by omega) (by omega) g g1 g2 e), p3.chg c (fun g g1 g2 e => ap 3 1 (by omega) (by omega) (by omega) g g1 g2 e), LsI.chg noI_k p4 c (fun g g1 g2 e => ap 4 1 (by omega) (by omega) (by omega) g g1 g2 e)⟩, c.mono (fun g _ hg => hh 1 (by omega) g hg.1 hg.2)⟩))
  (fun u ⟨p0, p1, p2, p3, p4⟩ => (p2.markC (wK2 (n + 1) k D) (by omega) (by omega)).mono (fun e u' ⟨r, q, c⟩ => ⟨r, ⟨LsI.chg (nodI_k _) p0 c (fun g g1 g2 e => ap 0 2 (by omega) (by omega) (by omega) g g1 g2 e), LsI.chg (rpcI_k _) p1 c (fun g g1 g2 e => ap 1 2 (by omega) (by omega) (by omega) g g1 g2 e), q, p3.chg c (fun g g1 g2 e => ap 3 2 (by omega) (by omega) (by omega) g g1 g2 e), LsI.chg noI_k p4 c (fun g g1 g2 e => ap 4 2 (by omega) (by omega) (by omega) g g1 g2 e)⟩, c.mono (fun g _ hg => hh 2 (by omega) g hg.1 hg.2)⟩))
  (fun u ⟨p0, p1, p2, p3, p4⟩ => (p3.markD (wK3 (n + 1) k D) (by omega) (by omega)).mono (fun e u' ⟨r, q, c⟩ => ⟨r, ⟨LsI.chg (nodI_k _) p0 c (fun g g1 g2 e => ap 0 3 (by omega) (by omega) (by omega) g g1 g2 e), LsI.chg (rpcI_k _) p1 c (fun g g1 g2 e => ap 1 3 (by omega) (by omega) (by omega) g g1 g2 e), LsI.chg noI_k p2 c (fun g g1 g2 e => ap 2 3 (by omega) (by omega) (by omega) g g1 g2 e), q, LsI.chg noI_k p4 c (fun g g1 g2 e => ap 4 3 (by omega) (by omega) (by omega) g g1 g2 e)⟩, c.mono (fun g _ hg => hh 3 (by omega) g hg.1 hg.2)⟩))
  (fun u ⟨p0, p1, p2, p3, p4⟩ => (p4.markL (wK4 (n + 1) k D) (by omega) (by omega)).mono (fun e u' ⟨r, q, c⟩ => ⟨r, ⟨LsI.chg (nodI_k _) p0 c (fun g g1 g2 e => ap 0 4 (by omega) (by omega) (by omega) g g1 g2 e), LsI.chg (rpcI_k _) p1 c (fun g g1 g2 e => ap 1 4 (by omega) (by omega) (by omega) g g1 g2 e), LsI.chg noI_k p2 c (fun g g1 g2 e => ap 2 4 (by omega) (by omega) (by omega) g g1 g2 e), p3.chg c (fun g g1 g2 e => ap 3 4 (by omega) (by omega) (by omega) g g1 g2 e), q⟩, c.mono (fun g _ hg => hh 4 (by omega) g hg.1 hg.2)⟩))).mono ?_
 rintro e w' ⟨r, ⟨p0, p1, p2, p3, p4⟩, c⟩
 exact ⟨r, ⟨a, b, h1, h2, Nat.le_trans h3 c.size, p0, p1, p2, p3, p4⟩, c⟩

theorem heldWorld_w (n : Nat) (W : WrV) (D : Wd) (k : Int) (w : World) (h : WrAt (n + 1) w W (wMk (n + 1) k D)) (hk0 : 0 ≤ k) (hk1 : wK5 (n + 1) k D ≤ 67108864) :
  Calls Tryz.prog 15 #[W.val, .int .i64 k] w fun e w' => e = .returned (.int .i64 (wK5 (n + 1) k D)) ∧ Below w.heap.size w w' := by
 have e1 : wK1 (n + 1) k D = k + (sumE (nodK (n + 1)) D.ns D.ns.length : Nat) := rfl
 have e2 : wK2 (n + 1) k D = wK1 (n + 1) k D + (sumE (rpcK (n + 1)) D.rs D.rs.length : Nat) := rfl
 have e3 : wK3 (n + 1) k D = wK2 (n + 1) k D + 5 * (D.cs.length : Nat) := rfl
 have e4 : wK4 (n + 1) k D = wK3 (n + 1) k D + 4 * (D.ds.length : Nat) := rfl
 have e5 : wK5 (n + 1) k D = wK4 (n + 1) k D + 2 * (D.ls.length : Nat) := rfl
 obtain ⟨sz, nv, rv, cv, av, lv⟩ := W
 obtain ⟨o0, o1, o2, o3, o4⟩ := h
 simp only at o0 o1 o2 o3 o4
 obtain ⟨a0, q0, hz, _⟩ := o0.len
 subst hz
 obtain ⟨a1, q1, hz, _⟩ := o1.len
 subst hz
 obtain ⟨a2, q2, hz, _⟩ := o2.len
 subst hz
 obtain ⟨a3, q3, hz, _⟩ := o3.len
 subst hz
 obtain ⟨a4, q4, hz, _⟩ := o4.len
 subst hz
 exact heldWorld_c (k1 := wK1 (n + 1) k D) (k2 := wK2 (n + 1) k D) (k3 := wK3 (n + 1) k D) (k4 := wK4 (n + 1) k D) (k5 := wK5 (n + 1) k D) w (by omega) (by omega) (by omega) (by omega) (by omega)
  (fun u hb => heldNodeS_any n _ D.ns k u (o0.below (nodAt_b _) hb) hk0 (by omega))
  (fun u hb => heldRpcS_any n _ D.rs (wK1 (n + 1) k D) u (o1.below (rpcAt_b _) hb) (by omega) (by omega))
  (fun u hb => heldCmdS_any _ D.cs.length (wK2 (n + 1) k D) u (o2.below noAt_b hb) (by omega) (by omega))
  (fun u hb => heldDoneS_any _ D.ds.length (wK3 (n + 1) k D) u (by have := o3.below hb; simp only [wMk, marksD_length] at this ⊢; exact this) (by omega) (by omega) (by omega))
  (fun u hb => heldLeadS_any _ D.ls.length (wK4 (n + 1) k D) u (o4.below noAt_b hb) (by omega) (by omega))
end
end Go.Proofs.YtkcaelfkcepdkaaGreat
