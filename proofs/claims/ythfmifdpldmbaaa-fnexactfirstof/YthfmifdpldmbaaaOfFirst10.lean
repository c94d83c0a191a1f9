/-
  Lists of structs: the laws' measures.
  A lead, a command: copied, compared; what a struct's cells are.
  What chapter 2 says of trees, as plain functions.
  Contracts of MapOk, the model's and the program's.
  Contracts of the model's chapter 2: l2Leaf.
  The contract of the model's l2Depth.
  Contracts of the model's chapter 2: TreeDepth, TreeOk, l2Count, TreeCount, l2Kid, KidOf.
  Contracts of the model's chapter 2: TreeCount, l2Kid, KidOf; of the program's countAll, kidAt.
  Contracts of the program's chapter 2: kindOf, tooDeep, has, splits, rootOf, kid.
  Contracts of the program's chapter 2: rootOf, kid.
  The contract of the program's kid.
  Contracts of the program's chapter 2: pairsOk, cutsOk, bufOk.
  Contracts of the program's chapter 2: bufOk.
  Contracts of the program's chapter 2: depthByKids, depth.
  Contracts of the program's chapter 2: TreeDepth, TreeOk, countAll, TreeCount, kidAt, KidOf.
  Contracts of the program's chapter 2: kidAt, KidOf.
  What a message makes of a map, key by key; plain mathematics.
  What chapter 3 says of trees, as plain functions: what is pending of a key, what a key has; plain mathematics.
  What map a tree tells, as plain functions: kid by kid as the model says it, leaf by leaf as the program does; plain mathematics.
  Appending to a row of one's own: one element that was just laid; a whole list.
  Contracts of the program's messages behind an interface, and of its sum at the limit.
  Shrinking messages, as the model and as the program do it; plain mathematics: both come to one.
  What comes of a tree that is given messages, as plain functions; shapes and weights.
  Appending a list to a row of one's own, at a step of a region that draws its order.
  Rows and trees with the blocks that they lie in: what stays when other blocks are written.
  The contract of the model's l3Pending.
  The contract of the program's wayDown.
  The sorted map's drop, by a contract.
  The model's way of putting into a map, pair by pair, comes to the plain function.
  Contracts of the model's small functions on maps: clamp, without, put.
  Contracts of MapGet, the model's and the program's.
  Contracts of the model's MapDo and MapAll.
  Contracts of the program's sorted map as a map of pairs: put, drop, get, turned by a message, made of a list.
  The program's sorted map made of a list of pairs, and told as one.
  The contracts of the program's MapAll and MapDo.
  The contract of the model's MapAll.
  Contracts of chapter 3's Pending and TreeGet, of the model and of the program.
  Contracts of the model's TreeMap and TreeRange.
  Contracts of the model's l4At, l4Split.
-/
import Derived.Test.YthfmifdpldmbaaaOfFirst9
import Derived.Test.YthfmifdpldmbaaaOfFirst5
import Derived.Test.YthfmifdpldmbaaaOfFirst3
import Derived.Test.YthfmifdpldmbaaaOfFirst1
import Derived.Test.YthfmifdpldmbaaaOfFirst4
import Derived.Deep.DeepCutAuto
import Derived.Laws.AppendOwnNone
import Derived.Test.YthfmifdpldmbaaaOfFirst2
import Derived.Deep.RegionHeld3
import Derived.Deep.AppendLies
import Derived.Deep.LoopGhost
import Derived.Deep.RegionWith
namespace Go.Proofs.Ythfmifdpldmbaaa
set_option maxRecDepth 100000
set_option maxHeartbeats 8000000
section
open Go.RowKit

theorem szNodeS_t (n : Nat) (v : Value) (es : List NodE) (left : Int) (w : World) (h : LsAt nodC (nodAt n) w v es) (h0 : 0 ≤ left) (h1 : left ≤ 1048576) :
  Calls Try.prog 9 #[v, .int .i64 left] w fun e w' => ∃ r : Int, e = .returned (.int .i64 r) ∧ r ≤ 1048576 ∧ (¬ r < 0 → r + es.length + (sumE (nodN n) es es.length : Nat) ≤ left) ∧ Below w.heap.size w w' := by
 obtain ⟨a, b, off, cap, rfl, hcap, hmax, ha, rg⟩ := h.parts (K := 23) (fun _ => rfl)
 unfold maxLen at hmax
 have SZ := hq (fun u i (L : Int) (hi : i < es.length) (hu : Below w.heap.size w u) (h0 : 0 ≤ L) (h1 : L ≤ 1048576) => szNode_t n es[i].1 es[i].2 L u ((h.2 _ (List.getElem_mem hi)).below hu) h0 h1)
 have SS := hq (fun i (hi : i < es.length) => sumE_succ (nodN n) es i hi)
 have S0 : Hid (sumE (nodN n) es 0 = 0) := by show _ = _; simp [sumE]
 have RG := hq rg
 have HA := hq ha
 clear h rg ha
 by_cases hl : (es.length : Int) ≤ left
 ·go_enter Try.func9, Try.ntmps9
  go_wp2
  go_loopw [1, 5] (fun lf i wr => ∃ (k : Nat) (L : Int), k ≤ es.length ∧ lf = .int .i64 L ∧ i = .int .i64 k ∧ 0 ≤ L ∧ L ≤ 1048576 ∧ Hid (L + es.length + (sumE (nodN n) es k : Nat) ≤ left) ∧ Hid (Below w.heap.size w wr)) (fun _ i _ => es.length - (intOf i).toNat)
  case atStart => exact ⟨0, left - es.length, Nat.zero_le _, rfl, rfl, by omega, by omega, by show _ ≤ _; rw [S0.out]; omega, Below.refl _ _⟩
  case round =>
   obtain ⟨k, L, hk, rfl, rfl, hL0, hL1, SL, BW⟩ := hrel
   by_cases hlt : k < es.length
   ·have hal := HA.out (by omega)
    subst hal
    have hi : (k : Int) < (es.length : Int) := by omega
    have RU := hq (RG.out wr BW.out k hlt)
    have S1 := hq (SS.out k hlt)
    go_wp2_with (refine wpList_load_mid rfl 79 _ rfl b (off + k * 23) rfl (nodC es[k]) _ RU.out Try.underlying79 rfl (show (Try.prog.info? 79).map (·.size) = some 23 by kernel_rfl) ?_)
    refine (SZ.out wr k L hlt BW.out hL0 hL1).mono ?_
    rintro e w1 ⟨r, rfl, hr1, hr2, b1⟩
    have B1 := hq (Below.and BW.out b1)
    have R2 := hq hr2
    clear b1 hr2
    by_cases hr : r < 0
    ·go_wp2
     go_ret
     exact ⟨_, rfl, by omega, fun h => by omega, B1.out⟩
    ·go_wp2
     go_roundw
     case rel => exact ⟨k + 1, r, by omega, rfl, by go_num, by omega, by omega, (by show _ ≤ _; have e1 := R2.out hr; have e2 := SL.out; rw [S1.out]; unfold nodN at *; omega), B1.out⟩
     case measure => simp [intOf]; omega
   ·have hi : ¬ (k : Int) < (es.length : Int) := by omega
    have FIN : Hid (L + es.length + (sumE (nodN n) es es.length : Nat) ≤ left) := by have := SL.out; rw [show k = es.length by omega] at this; exact this
    go_wp2
    go_ret
    exact ⟨_, rfl, by omega, fun _ => FIN.out, BW.out⟩
 ·go_enter Try.func9, Try.ntmps9
  go_wp2
  go_ret
  exact ⟨_, rfl, by omega, fun h => by omega, Below.refl _ _⟩

theorem szRpcS_t (n : Nat) (v : Value) (es : List RpcE) (left : Int) (w : World) (h : LsAt rpcC (rpcAt n) w v es) (h0 : 0 ≤ left) (h1 : left ≤ 1048576) :
  Calls Try.prog 10 #[v, .int .i64 left] w fun e w' => ∃ r : Int, e = .returned (.int .i64 r) ∧ r ≤ 1048576 ∧ (¬ r < 0 → r + es.length + (sumE (rpcN n) es es.length : Nat) ≤ left) ∧ Below w.heap.size w w' := by
 obtain ⟨a, b, off, cap, rfl, hcap, hmax, ha, rg⟩ := h.parts (K := 15) (fun _ => rfl)
 unfold maxLen at hmax
 have SZ := hq (fun u i (L : Int) (hi : i < es.length) (hu : Below w.heap.size w u) (h0 : 0 ≤ L) (h1 : L ≤ 1048576) => szRpc_t n es[i].1 es[i].2 L u ((h.2 _ (List.getElem_mem hi)).below hu) h0 h1)
 have SS := hq (fun i (hi : i < es.length) => sumE_succ (rpcN n) es i hi)
 have S0 : Hid (sumE (rpcN n) es 0 = 0) := by show _ = _; simp [sumE]
 have RG := hq rg
 have HA := hq ha
 clear h rg ha
 by_cases hl : (es.length : Int) ≤ left
 ·go_enter Try.func10, Try.ntmps10
  go_wp2
  go_loopw [1, 5] (fun lf i wr => ∃ (k : Nat) (L : Int), k ≤ es.length ∧ lf = .int .i64 L ∧ i = .int .i64 k ∧ 0 ≤ L ∧ L ≤ 1048576 ∧ Hid (L + es.length + (sumE (rpcN n) es k : Nat) ≤ left) ∧ Hid (Below w.heap.size w wr)) (fun _ i _ => es.length - (intOf i).toNat)
  case atStart => exact ⟨0, left - es.length, Nat.zero_le _, rfl, rfl, by omega, by omega, by show _ ≤ _; rw [S0.out]; omega, Below.refl _ _⟩
  case round =>
   obtain ⟨k, L, hk, rfl, rfl, hL0, hL1, SL, BW⟩ := hrel
   by_cases hlt : k < es.length
   ·have hal := HA.out (by omega)
    subst hal
    have hi : (k : Int) < (es.length : Int) := by omega
    have RU := hq (RG.out wr BW.out k hlt)
    have S1 := hq (SS.out k hlt)
    go_wp2_with (refine wpList_load_mid rfl 82 _ rfl b (off + k * 15) rfl (rpcC es[k]) _ RU.out Try.underlying82 rfl (show (Try.prog.info? 82).map (·.size) = some 15 by kernel_rfl) ?_)
    refine (SZ.out wr k L hlt BW.out hL0 hL1).mono ?_
    rintro e w1 ⟨r, rfl, hr1, hr2, b1⟩
    have B1 := hq (Below.and BW.out b1)
    have R2 := hq hr2
    clear b1 hr2
    by_cases hr : r < 0
    ·go_wp2
     go_ret
     exact ⟨_, rfl, by omega, fun h => by omega, B1.out⟩
    ·go_wp2
     go_roundw
     case rel => exact ⟨k + 1, r, by omega, rfl, by go_num, by omega, by omega, (by show _ ≤ _; have e1 := R2.out hr; have e2 := SL.out; rw [S1.out]; unfold rpcN at *; omega), B1.out⟩
     case measure => simp [intOf]; omega
   ·have hi : ¬ (k : Int) < (es.length : Int) := by omega
    have FIN : Hid (L + es.length + (sumE (rpcN n) es es.length : Nat) ≤ left) := by have := SL.out; rw [show k = es.length by omega] at this; exact this
    go_wp2
    go_ret
    exact ⟨_, rfl, by omega, fun _ => FIN.out, BW.out⟩
 ·go_enter Try.func10, Try.ntmps10
  go_wp2
  go_ret
  exact ⟨_, rfl, by omega, fun h => by omega, Below.refl _ _⟩

theorem szCmdS_any (a : Option Addr) (n cap : Nat) (left : Int) (hn : n ≤ maxLen) (hl : 0 ≤ left) (hl2 : left ≤ 1048576) (w : World) :
  Calls Try.prog 11 #[.slice a n cap, .int .i64 left] w fun e w' => e = .returned (.int .i64 (if (n : Int) ≤ left then left - n else -1)) ∧ w' = w := by
 unfold maxLen at hn
 by_cases h : (n : Int) ≤ left
 ·go_enter Try.func11, Try.ntmps11
  go_wp2
  go_ret
  exact ⟨rfl, rfl⟩
 ·go_enter Try.func11, Try.ntmps11
  go_wp2
  go_ret
  exact ⟨rfl, rfl⟩

theorem szLeadS_any (a : Option Addr) (n cap : Nat) (left : Int) (hn : n ≤ maxLen) (hl : 0 ≤ left) (hl2 : left ≤ 1048576) (w : World) :
  Calls Try.prog 13 #[.slice a n cap, .int .i64 left] w fun e w' => e = .returned (.int .i64 (if (n : Int) ≤ left then left - n else -1)) ∧ w' = w := by
 unfold maxLen at hn
 by_cases h : (n : Int) ≤ left
 ·go_enter Try.func13, Try.ntmps13
  go_wp2
  go_ret
  exact ⟨rfl, rfl⟩
 ·go_enter Try.func13, Try.ntmps13
  go_wp2
  go_ret
  exact ⟨rfl, rfl⟩
end
section
open Go.RowKit

theorem toCmd_c (e : CmdE) (w : World) : Calls Try.prog 31 #[.agg (cmdC e).toArray] w fun r w' => r = .returned (.agg (cmdC e).toArray) ∧ Below w.heap.size w w' := toCmd_any _ _ _ _ _ w
theorem eqCmd_c (e : CmdE) (w : World) : Calls Try.prog 36 #[.agg (cmdC e).toArray, .agg (cmdC e).toArray] w fun r w' => r = .returned (.bool true) ∧ Below w.heap.size w w' :=
 (eqCmd_any _ _ _ _ _ _ _ _ _ _ w).mono fun r w' ⟨h1, h2⟩ => ⟨by rw [h1, decide_eq_true rfl], h2⟩
theorem toLead_any (a b : Int) (w : World) : Calls Try.prog 33 #[.agg #[.int .i64 a, .int .i64 b]] w fun r w' => r = .returned (.agg #[.int .i64 a, .int .i64 b]) ∧ Below w.heap.size w w' := by
 go_enter Try.func33, Try.ntmps33
 go_wp2
 refine bodyPost_ret (v := .agg #[.int .i64 a, .int .i64 b]) (by simp [results, Try.results33, go_sem]) rfl ⟨rfl, ?_⟩
 exact (((Below.refl _ _).alloc (Nat.le_refl _) _).alloc (by simp) _).alloc (by simp; omega) _
theorem toLead_c (e : LedE) (w : World) : Calls Try.prog 33 #[.agg (ledC e).toArray] w fun r w' => r = .returned (.agg (ledC e).toArray) ∧ Below w.heap.size w w' := toLead_any _ _ w
theorem eqLead_c (e : LedE) (w : World) : Calls Try.prog 38 #[.agg (ledC e).toArray, .agg (ledC e).toArray] w fun r w' => r = .returned (.bool true) ∧ Below w.heap.size w w' := by
 show Calls Try.prog 38 #[.agg #[.int .i64 e.1, .int .i64 e.2], .agg #[.int .i64 e.1, .int .i64 e.2]] w _
 have B2 : Hid (Below w.heap.size w ((w.alloc (.cells #[.int .i64 e.1, .int .i64 e.2] 108)).alloc (.cells #[.int .i64 e.1, .int .i64 e.2] 108))) := Below.and (bel_nw _ _) (bel_nw _ _)
 go_enter Try.func38, Try.ntmps38
 go_wp2
 go_ret
 exact ⟨rfl, B2.out⟩
theorem wp_not_by {P : Program} {o : Oper} {a : Act} {K : Act → World → Prop} {Q : Exit → Act → World → Prop} {w : World} (x : Operand) (ho : o.op = .unOp .not 4 x) (b : Bool) (hx : a.eval x = .bool b) (h : K (a.put o.dst (.bool (!b))) w) : o.wp P a w K Q := by
 unfold Oper.wp execOp
 simp only [ho, hx]
 go_simp
 exact h
theorem NodAt.ones {n : Nat} {w : World} {N : NodV} {D D' : Nd} (h : NodAt n w N D) : (nodC (N, D')).toArray.all (·.oneCell') = true := by
 obtain ⟨id, te, vo, lb, lt, lv, s, ro, vv, nv, mv, cm, o⟩ := N
 obtain ⟨h1, h2, h3, h4, h5, h6⟩ := h
 obtain ⟨x1, e1⟩ := h1.sl
 obtain ⟨x3, e3⟩ := h3.sl
 obtain ⟨x4, e4⟩ := h4.sl
 obtain ⟨x5, e5⟩ := h5.sl
 obtain ⟨_, _, _, _, _, _, e2⟩ := h2.sl
 obtain ⟨_, _, _, _, _, _, e6⟩ := h6.sl
 simp only at e1 e2 e3 e4 e5 e6
 subst e1 e2 e3 e4 e5 e6
 simp [nodC, Value.oneCell']
theorem RpcAt.ones {n : Nat} {w : World} {N : RpcV} {D D' : Rd} (h : RpcAt n w N D) : (rpcC (N, D')).toArray.all (·.oneCell') = true := by
 obtain ⟨kd, fr, tt, te, ix, it, cm, ok, ev, s⟩ := N
 obtain ⟨h1, h2⟩ := h
 obtain ⟨x1, e1⟩ := h1.sl
 obtain ⟨_, _, _, _, _, _, e2⟩ := h2.sl
 simp only at e1 e2
 subst e1 e2
 simp [rpcC, Value.oneCell']
end
section
def allB (n : Nat) (f : Nat → Bool) : Bool := (List.range n).all f
def pairAt (T : Tr) (lo hi : Int) (i : Nat) : Bool := inB (kOf T.pairs i) lo (hi - 1)
def pairsInB (T : Tr) (lo hi : Int) : Bool := allB T.pairs.length (pairAt T lo hi)
def leafOkB (T : Tr) (lo hi : Int) : Bool := mapOkB T.pairs && (decide (T.pairs.length ≤ 4) && (decide (T.cuts.length + T.kids.length + T.buf.length = 0) && pairsInB T lo hi))
def msgAt (T : Tr) (lo hi : Int) (i : Nat) : Bool := msgOkB (mO T.buf i) (mK T.buf i) (mV T.buf i) && (!(mO T.buf i == 4) && inB (mK T.buf i) lo (hi - 1))
def bufOkB (T : Tr) (lo hi : Int) : Bool := allB T.buf.length (msgAt T lo hi)
def fromT (T : Tr) (lo : Int) (i : Nat) : Int := if i = 0 then lo else iAt T.cuts (i - 1)
def toT (T : Tr) (hi : Int) (i : Nat) : Int := if i < T.cuts.length then iAt T.cuts i else hi
def cutAt (T : Tr) (lo hi : Int) (i : Nat) : Bool := inB (iAt T.cuts i) (fromT T lo i + 1) (hi - 1)
def cutsOkB (T : Tr) (lo hi : Int) : Bool := allB T.cuts.length (cutAt T lo hi)
def shapeB (T : Tr) : Bool := decide (T.pairs.length = 0) && (decide (2 ≤ T.kids.length ∧ T.kids.length ≤ 4) && (decide (T.cuts.length + 1 = T.kids.length) && decide (T.buf.length ≤ 6)))
def forkOkB (T : Tr) (lo hi : Int) : Bool := shapeB T && (bufOkB T lo hi && cutsOkB T lo hi)
def kidsD (d : Nat → Nat) (n : Nat) : Nat := if (!(d 0 == 0) && allB n fun i => d i == d 0) = true then d 0 + 1 else 0
def depthF : Nat → Tr → Int → Int → Nat
 | 0, _, _, _ => 0
 | m + 1, T, lo, hi => if T.leaf = true then (if leafOkB T lo hi = true then 1 else 0) else if forkOkB T lo hi = true then kidsD (fun i => depthF m (kidT T i) (fromT T lo i) (toT T hi i)) T.kids.length else 0
def kidF (m : Nat) (T : Tr) (lo hi : Int) (i : Nat) : Nat := depthF m (kidT T i) (fromT T lo i) (toT T hi i)

def pairsF : Nat → Tr → Nat
 | 0, _ => 0
 | n + 1, T => T.pairs.length + (T.kids.map (pairsF n)).sum
def msgsF : Nat → Tr → Nat
 | 0, _ => 0
 | n + 1, T => T.buf.length + (T.kids.map (msgsF n)).sum
def sumF (f : Tr → Nat) (ts : List Tr) (k : Nat) : Nat := ((ts.take k).map f).sum
def cutsTo (l : List Int) (k : Int) : Nat := (l.filter fun c => decide (c ≤ k)).length

def depthT (T : Tr) : Nat := depthF 7 T 0 1000
def okT (T : Tr) : Bool := decide (0 < depthT T)
end
section
open Go.RowKit
end
section
open Go.RowKit

def OneAt (u : World) (B : Nat) (A : Array Value) : Prop := u.heap[B]? = some (.cells A 90 (0, 0))
def leafD (T : Tr) (lo hi : Int) : Int := if leafOkB T lo hi = true then 1 else 0
end
section
open Go.RowKit
end
section
open Go.RowKit

def CountIs (g : FuncId) (n : Nat) : Prop := ∀ (x : TV) (T : Tr) (w : World), TreeAt n w x T → sizeT n T ≤ 1099511627776 →
  Calls Try.prog g #[x.val] w fun e w' => e = .returned (.tuple #[.int .i64 (pairsF n T : Nat), .int .i64 (msgsF n T : Nat)]) ∧ Below w.heap.size w w'
end
section
open Go.RowKit

def prefK (l : List Int) (k : Int) : Nat := (l.takeWhile fun c => decide (c ≤ k)).length
def kidOfT (T : Tr) (k : Int) : Int := if T.leaf = true ∨ okT T = false then -1 else (prefK T.cuts k : Nat)
end
section
open Go.RowKit

def BoxAt (t : TypeId) (u : World) (B : Nat) (A : Array Value) : Prop := u.heap[B]? = some (.cells A t (0, 0))
def kindN (T : Tr) : Int := if T.leaf = true then (if T.cuts.length = 0 ∧ T.kids.length = 0 ∧ T.buf.length = 0 then 1 else 0) else (if T.pairs.length = 0 then 2 else 0)
abbrev placeV (kd lo hi ab : Int) : Value := .agg #[.int .i64 kd, .int .i64 lo, .int .i64 hi, .int .i64 ab]
abbrev placedV (kd lo hi ab : Int) (x : TV) : Value := .agg #[.int .i64 kd, .int .i64 lo, .int .i64 hi, .int .i64 ab, .bool x.lf, x.p, x.c, x.k, x.b]
end
section
open Go.RowKit
end
section
open Go.RowKit
end
section
open Go.RowKit

def pairsOkB (T : Tr) (lo hi : Int) : Bool := decide (T.pairs.length ≤ 4) && (mapOkB T.pairs && pairsInB T lo hi)
def cutsOk2B (T : Tr) (lo hi : Int) : Bool := decide (2 ≤ T.kids.length ∧ T.kids.length ≤ 4) && (decide (T.cuts.length + 1 = T.kids.length) && cutsOkB T lo hi)
end
section
open Go.RowKit

def bufOk2B (T : Tr) (lo hi : Int) : Bool := decide (T.buf.length ≤ 6) && bufOkB T lo hi
end
section
open Go.RowKit
end
section
open Go.RowKit
end
section
open Go.RowKit

def cntK (l : List Int) (k : Int) : Nat → Nat
 | 0 => 0
 | n + 1 => cntK l k n + (if iAt l n ≤ k then 1 else 0)
end
section

end
section
def ofK (ms : ML) (k : Int) : ML := ms.filter fun m => decide (m.2.1 = k)
def kidK (T : Tr) (k : Int) : Tr := kidT T (prefK T.cuts k)
def leafF : Nat → Tr → Int → Tr
 | 0, T, _ => T
 | n + 1, T, k => if T.leaf = true then T else leafF n (kidK T k) k
def pendF : Nat → Tr → Int → ML
 | 0, _, _ => []
 | n + 1, T, k => if T.leaf = true then [] else pendF n (kidK T k) k ++ ofK T.buf k
def updV (x : Int × Bool) (m : Int × Int × Int) : Int × Bool :=
 if msgOkB m.1 m.2.1 m.2.2 = true then (if m.1 = 1 then (m.2.2, true) else if m.1 = 2 then (0, false) else if m.1 = 3 then (clampI (x.1 + m.2.2), true) else x) else x
def updA (x : Int × Bool) (ms : ML) : Int × Bool := ms.foldl updV x
def valF (n : Nat) (T : Tr) (k : Int) : Int × Bool := updA (getP (leafF n T k).pairs k) (pendF n T k)

def oneP (l : PL) (k : Int) : PL := if (getP l k).2 = true then [(k, (getP l k).1)] else []
end
section
def KeysIn (lo hi : Int) (l : PL) : Prop := ∀ p ∈ l, lo ≤ p.1 ∧ p.1 < hi
def Chain : Int → Int → List Int → List PL → Prop
 | lo, hi, [], [M] => MapP M ∧ KeysIn lo hi M
 | lo, hi, c :: cs, M :: Ms => (MapP M ∧ KeysIn lo c M) ∧ lo < c ∧ c < hi ∧ Chain c hi cs Ms
 | _, _, _, _ => False
def frC (cs : List Int) (lo : Int) (i : Nat) : Int := if i = 0 then lo else iAt cs (i - 1)
def toC (cs : List Int) (hi : Int) (i : Nat) : Int := if i < cs.length then iAt cs i else hi
def mapF : Nat → Tr → PL
 | 0, _ => []
 | n + 1, T => allL (T.pairs ++ (T.kids.map (mapF n)).flatten) T.buf
def mineK (cs : List Int) (i : Nat) (ms : ML) : ML := ms.filter fun m => decide (cntK cs m.2.1 cs.length = i)
def toldF : Nat → Tr → ML → PL
 | 0, _, _ => []
 | n + 1, T, ab => if T.leaf = true then allL T.pairs ab else ((List.range T.kids.length).map fun i => toldF n (kidT T i) (mineK T.cuts i (T.buf ++ ab))).flatten

def rangeL (l : PL) (lo hi : Int) : PL := l.filter fun p => decide (lo ≤ p.1 ∧ p.1 < hi)
end
section
open Go.RowKit
end
section
open Go.RowKit

def okM (m : Int × Int × Int) : Bool := msgOkB m.1 m.2.1 m.2.2
def okMs (ms : ML) : ML := ms.filter okM
end
section
def rulB (m : Int × Int × Int) : Bool := (m.1 == 1) || (m.1 == 2)
def ruledB (l : ML) (k : Int) : Bool := l.any fun m => (m.2.1 == k) && rulB m
def overB (l : ML) (k : Int) : Bool := l.any fun m => okM m && ((m.2.1 == k) && rulB m)
def keptF : ML → ML
 | [] => []
 | m :: l => if okM m = true ∧ m.1 ≠ 4 ∧ overB l m.2.1 = false then m :: keptF l else keptF l
def firstI : ML → Int → Int
 | [], _ => -1
 | m :: l, k => if m.2.1 = k then 0 else if firstI l k < 0 then -1 else firstI l k + 1
def joinsB (A : ML) (m : Int × Int × Int) : Bool := decide (0 ≤ firstI A m.2.1) && ((mO A (firstI A m.2.1).toNat == 1) && (m.1 == 3))
def stepS (A : ML) (m : Int × Int × Int) : ML :=
 if joinsB A m = true then A.set (firstI A m.2.1).toNat (mO A (firstI A m.2.1).toNat, mK A (firstI A m.2.1).toNat, clampI (mV A (firstI A m.2.1).toNat + m.2.2)) else A ++ [m]
def shrinkF (ms : ML) : ML := (keptF ms).foldl stepS []

def wgF (l : ML) : ML := l.filter fun m => m.1 != 4
def woF : ML → ML
 | [] => []
 | m :: l => if ruledB l m.2.1 = true then woF l else m :: woF l
def stepJ (s : ML × PL) (m : Int × Int × Int) : ML × PL :=
 if m.1 = 1 then (s.1 ++ [m], putF s.2 m.2.1 s.1.length)
 else if m.1 = 3 ∧ (getP s.2 m.2.1).2 = true then (s.1.set (getP s.2 m.2.1).1.toNat (1, m.2.1, clampI (mV s.1 (getP s.2 m.2.1).1.toNat + m.2.2)), s.2)
 else (s.1 ++ [m], s.2)
def joinF (l : ML) : ML := (l.foldl stepJ ([], [])).1

def NoRul (l : ML) : Prop := l.Pairwise fun a b => a.2.1 = b.2.1 → rulB b = false
structure Side (A : ML) (P : PL) : Prop where
 asc : Asc P
 has : ∀ k, (getP P k).2 = true → ∃ n : Nat, (getP P k).1 = n ∧ firstI A k = n ∧ n < A.length ∧ mO A n = 1
 hasnt : ∀ k, (getP P k).2 = false → 0 ≤ firstI A k → mO A (firstI A k).toNat ≠ 1

def okN (m : Int × Int × Int) : Prop := okM m = true ∧ m.1 ≠ 4
end
section
open Go.RowKit

abbrev TM := List Tr × List Int

def mineF (cs : List Int) (i : Nat) (b : ML) : ML := b.filter fun m => decide (prefK cs m.2.1 = i)
def restF (cs : List Int) (i : Nat) (b : ML) : ML := b.filter fun m => !decide (prefK cs m.2.1 = i)
def mineSum (cs : List Int) (b : ML) : Nat → Nat
 | 0 => 0
 | k + 1 => mineSum cs b k + (mineF cs k b).length
def mostTo (cs : List Int) (b : ML) : Nat → Nat × Int
 | 0 => (0, -1)
 | k + 1 => if (mostTo cs b k).2 < ((mineF cs k b).length : Int) then (k, ((mineF cs k b).length : Int)) else mostTo cs b k
def manyN (r : Nat) : Nat := if r = 3 then 3 else 2
def leafT (ps : PL) : Tr := ⟨true, ps, [], [], []⟩
def lfTF (ps : PL) : Nat → Nat → List Tr
 | 0, _ => []
 | f + 1, i => if i < ps.length then leafT ((ps.drop i).take (manyN (ps.length - i))) :: lfTF ps f (i + manyN (ps.length - i)) else []
def lfCF (ps : PL) : Nat → Nat → List Int
 | 0, _ => []
 | f + 1, i => if i < ps.length then (if 0 < i then [kOf ps i] else []) ++ lfCF ps f (i + manyN (ps.length - i)) else []
def lfT (ps : PL) (i : Nat) : List Tr := lfTF ps (ps.length - i) i
def lfC (ps : PL) (i : Nat) : List Int := lfCF ps (ps.length - i) i
def leafM (ps : PL) : TM := if ps.length ≤ 4 then ([leafT ps], []) else (lfT ps 0, lfC ps 0)

def packT (m : TM) (i : Nat) : Tr := ⟨false, [], (m.2.drop i).take (manyN (m.1.length - i) - 1), (m.1.drop i).take (manyN (m.1.length - i)), []⟩
def pkTF (m : TM) : Nat → Nat → List Tr
 | 0, _ => []
 | f + 1, i => if i < m.1.length then packT m i :: pkTF m f (i + manyN (m.1.length - i)) else []
def pkCF (m : TM) : Nat → Nat → List Int
 | 0, _ => []
 | f + 1, i => if i < m.1.length then (if 0 < i then [iAt m.2 (i - 1)] else []) ++ pkCF m f (i + manyN (m.1.length - i)) else []
def pkT (m : TM) (i : Nat) : List Tr := pkTF m (m.1.length - i) i
def pkC (m : TM) (i : Nat) : List Int := pkCF m (m.1.length - i) i
def packM (m : TM) : TM := (pkT m 0, pkC m 0)

def putM (m : TM) (i : Nat) (x : TM) : TM := (m.1.take i ++ x.1 ++ m.1.drop (i + 1), m.2.take i ++ x.2 ++ m.2.drop i)

def sideT (f : Nat → TM) : Nat → List Tr
 | 0 => []
 | k + 1 => sideT f k ++ (f k).1
def sideC (f : Nat → TM) (cs : List Int) : Nat → List Int
 | 0 => []
 | k + 1 => (sideC f cs k ++ if 0 < k then [iAt cs (k - 1)] else []) ++ (f k).2
def kidM (g : Tr → ML → TM) (m : TM) (b : ML) (i : Nat) : TM := if 0 < (mineF m.2 i b).length then g (m.1.getD i noTr) (mineF m.2 i b) else ([m.1.getD i noTr], [])
def downM (g : Tr → ML → TM) (m : TM) (b : ML) : TM := (sideT (kidM g m b) m.1.length, sideC (kidM g m b) m.2 m.1.length)

def loopM (g : Tr → ML → TM) : Nat → TM → ML → TM × ML
 | 0, m, b => (m, b)
 | f + 1, m, b => if 6 < b.length then loopM g f (putM m (mostTo m.2 b m.1.length).1 (g (m.1.getD (mostTo m.2 b m.1.length).1 noTr) (mineF m.2 (mostTo m.2 b m.1.length).1 b))) (restF m.2 (mostTo m.2 b m.1.length).1 b) else (m, b)

def endM (g : Tr → ML → TM) (r : TM × ML) : TM := if 4 < r.1.1.length then packM (downM g r.1 r.2) else ([⟨false, [], r.1.2, r.1.1, r.2⟩], [])
def giveM : Nat → Tr → ML → TM
 | 0, T, _ => ([T], [])
 | d + 1, T, ms => if T.leaf = true then leafM (allL T.pairs ms) else
   endM (giveM d) (loopM (giveM d) (shrinkF (T.buf ++ ms)).length (T.kids, T.cuts) (shrinkF (T.buf ++ ms)))

def rootM : Nat → TM → Tr
 | 0, m => m.1.getD 0 noTr
 | f + 1, m => if 4 < m.1.length then rootM f (packM m) else if m.1.length = 1 then m.1.getD 0 noTr else ⟨false, [], m.2, m.1, []⟩

def bothM (f : Nat → TM) (m : TM) : TM := (sideT f m.1.length, sideC f m.2 m.1.length)
def endD (o : TM) : TM := if 4 < o.1.length then packM o else ([⟨false, [], o.2, o.1, []⟩], [])
def drainM : Nat → Tr → TM
 | 0, T => ([T], [])
 | d + 1, T => if T.leaf = true then ([T], []) else
   endD (bothM (fun i => drainM d ((downM (giveM d) (T.kids, T.cuts) T.buf).1.getD i noTr)) (downM (giveM d) (T.kids, T.cuts) T.buf))

def shT : Nat → Tr → Prop
 | 0, _ => False
 | d + 1, T => (T.leaf = true ∧ d = 0 ∧ T.pairs.length ≤ 4 ∧ T.cuts = [] ∧ T.kids = [] ∧ T.buf = []) ∨
   (T.leaf = false ∧ T.pairs = [] ∧ 2 ≤ T.kids.length ∧ T.kids.length ≤ 4 ∧ T.cuts.length + 1 = T.kids.length ∧ T.buf.length ≤ 6 ∧ ∀ t ∈ T.kids, shT d t)
def wt : Nat → Tr → Nat
 | 0, _ => 0
 | d + 1, T => if T.leaf = true then 1 else (T.kids.map (wt d)).sum + T.buf.length
def wtL (d : Nat) (ts : List Tr) : Nat := (ts.map (wt d)).sum
def MOk (d : Nat) (m : TM) : Prop := m.2.length + 1 = m.1.length ∧ ∀ t ∈ m.1, shT d t
def Keeps (d : Nat) (g : Tr → ML → TM) : Prop := ∀ T ms, shT d T → 0 < ms.length → MOk d (g T ms) ∧ wtL d (g T ms).1 ≤ wt d T + ms.length
end
section
open Go.RowKit
end
section
open Go.RowKit

def Plain (w : World) (b : Nat) : Prop := ∃ (c : Array Value) (t : Nat), w.heap[b]? = some (.cells c t (0, 0))
def RowF (w : World) (F : Nat → Prop) (v : Value) (n : Nat) (xs : List Value) : Prop :=
 ∃ (a : Option Addr) (b off cap : Nat), v = .slice a n cap ∧ n ≤ cap ∧ cap ≤ maxLen ∧ (0 < n → a = some ⟨b, off, none⟩ ∧ F b ∧ Plain w b) ∧ (∀ j u, xs[j]? = some u → w.cell? ⟨b, off + j, none⟩ = some u) ∧ (a = none → cap = 0) ∧ (n = 0 → xs = [])
def TreeF : Nat → World → (Nat → Prop) → TV → Tr → Prop
 | 0, _, _, _, _ => False
 | n + 1, w, F, x, T => x.lf = T.leaf ∧ RowF w F x.p T.pairs.length (flatP T.pairs) ∧ RowF w F x.c T.cuts.length (flatI T.cuts) ∧ RowF w F x.b T.buf.length (flatM T.buf) ∧
   ∃ xs : List TV, xs.length = T.kids.length ∧ RowF w F x.k xs.length (flatT xs) ∧ ∀ i, i < xs.length → TreeF n w F (tvAt xs i) (kidT T i)
def TreesF (n : Nat) (w : World) (F : Nat → Prop) (v : Value) (ts : List Tr) : Prop :=
 ∃ xs : List TV, xs.length = ts.length ∧ RowF w F v xs.length (flatT xs) ∧ ∀ i, i < xs.length → TreeF n w F (tvAt xs i) (ts.getD i noTr)
end
section
open Go.RowKit
end
section
open Go.RowKit

abbrev set5 (u : World) (L : Nat) (t0 t1 t2 t3 t4 : Value) : World := ((((u.setCell ⟨L, 0, none⟩ t0).setCell ⟨L, 1, none⟩ t1).setCell ⟨L, 2, none⟩ t2).setCell ⟨L, 3, none⟩ t3).setCell ⟨L, 4, none⟩ t4
end
section
open Go.RowKit
end
section
def stp (k v : Int) (s : PL × Bool) (p : Int × Int) : PL × Bool :=
 if s.2 = false ∧ k ≤ p.1 then (if p.1 = k then (s.1 ++ [(k, v)], true) else (s.1 ++ [(k, v)] ++ [p], true))
 else (if p.1 = k then s else (s.1 ++ [p], s.2))
def stpTo (k v : Int) (l : PL) (i : Nat) : PL × Bool := (l.take i).foldl (stp k v) ([], false)
def stpEnd (k v : Int) (s : PL × Bool) : PL := if s.2 = true then s.1 else s.1 ++ [(k, v)]
end
section
open Go.RowKit
end
section
open Go.RowKit
end
section
open Go.RowKit
end
section
open Go.RowKit
end
section
open Go.RowKit
end
section
open Go.RowKit
end
section
open Go.RowKit
end
section
open Go.RowKit

def pendT (T : Tr) (k : Int) : ML := if okT T = true then pendF 7 T k else []
def getT (T : Tr) (k : Int) : Int × Bool := if okT T = true then getP (allL (leafF 7 T k).pairs (pendF 7 T k)) k else (0, false)
end
section
open Go.RowKit

def accF (m : Nat) (T : Tr) (j : Nat) : PL := T.pairs ++ ((T.kids.take j).map (mapF m)).flatten
def mapT (T : Tr) : PL := if okT T = true then mapF 7 T else []
def rangeT (T : Tr) (lo hi : Int) : PL := rangeL (mapT T) lo hi
end
section
open Go.RowKit
end
end Go.Proofs.Ythfmifdpldmbaaa
