/-
  PutNum, the model's and the program's: the bytes of the number form, a row of its own.
  The numbers of a node, and their bytes, as plain functions.
  A region that draws its order and whose last operation comes behind all others, by one road or another; the others only read: one quiet walk, then the last one, which may panic.
  The program's demand: it panics with the one error that stands for a mistake.
  Numbers in a row put into bytes: the program's formsOf, the model's l5Nums.
  What kind of node a tree is: in the text of the program's trees.
  The numbers of a node: the program's numsOfLeaf, numsOfFork, numsOfNode.
-/
import Derived.Test.YtekcnibohikmdaaOfWrites12
import Derived.Test.YtekcnibohikmdaaOfWrites4
import Derived.Test.YtekcnibohikmdaaOfWrites1
import Derived.Deep.QuietTactic
import Derived.BigQuiet
import Derived.Deep.RegionHeld3
import Derived.Recover
import Derived.Deep.RegionWith
import Derived.Test.YtekcnibohikmdaaOfWrites6
import Derived.Test.YtekcnibohikmdaaOfWrites9
namespace Go.Proofs.Ytekcnibohikmdaa
set_option maxRecDepth 100000
set_option maxHeartbeats 8000000
section
open Go.RowKit

theorem l1InN_any (x lo hi : Int) (w : World) :
  Calls Try.prog 16 #[.int .i64 x, .int .i64 lo, .int .i64 hi] w fun e w' => e = .returned (.bool (inB x lo hi)) ∧ w' = w := by
 by_cases h1 : lo ≤ x
 ·by_cases h2 : x ≤ hi
  ·have E : Hid (inB x lo hi = true) := inB_true h1 h2
   go_enter Try.func16, Try.ntmps16
   go_wp2
   go_ret
   exact ⟨ret_bool E.out.symm, rfl⟩
  ·have E : Hid (inB x lo hi = false) := inB_false2 h2
   go_enter Try.func16, Try.ntmps16
   go_wp2
   go_ret
   exact ⟨ret_bool E.out.symm, rfl⟩
 ·have E : Hid (inB x lo hi = false) := inB_false1 h1
  go_enter Try.func16, Try.ntmps16
  go_wp2
  go_ret
  exact ⟨ret_bool E.out.symm, rfl⟩

def OwnB (base : Nat) (w : World) (v : Value) (l : List Int) : Prop := w.ownsRow base 5 1 v l.length (flatB l)

theorem room5 {n : Nat} (h : n ≤ 5) : n + 1 ≤ maxLen ∧ (n + 1) * 1 ≤ 140737488355328 := ⟨by unfold maxLen; omega, by omega⟩

theorem specPutNum_any (x : Int) (w : World) :
  Calls Try.prog 54 #[.int .i64 x] w fun e w' => ∃ v, e = .returned v ∧ OwnB w.heap.size w' v (putN x) ∧ Below w.heap.size w w' := by
 obtain ⟨i0, hi, hz0, hz1, hz2⟩ := info_parts Try.infoByte
 have e0 : OwnB w.heap.size (w.alloc (.cells #[] 5)) (.slice (some ⟨w.heap.size, 0, none⟩) 0 0) [] := empty_own w w.heap.size 5 1 (Nat.le_refl _)
 have b0 : Below w.heap.size w (w.alloc (.cells #[] 5)) := (Below.refl _ _).alloc (Nat.le_refl _) _
 have E0 : Hid _ := And.intro e0 b0
 clear e0 b0
 by_cases h : -2000000000 ≤ x ∧ x ≤ 2000000000
 ·have PN : Hid (putN x = sevens 4 (codeN x)) := putN_in h.1 h.2
  have IB : inB x (-2000000000) 2000000000 = true := inB_true h.1 h.2
  obtain ⟨h1, h2⟩ := h
  by_cases hx : x < 0
  ·have EC : Hid (codeN x = -2 * x - 1) := by show _ = _; simp [codeN, hx]
   go_enter Try.func54, Try.ntmps54
   go_wp2_with (go_at_call 16; refine (l1InN_any _ _ _ _).mono ?_; rintro e w1 ⟨rfl, rfl⟩)
   go_loopw [3, 4] (fun o n wr => ∃ (k : Nat) (m : Int) (done : List Int), n = .int .i64 m ∧ Formed x done k m ∧ OwnB w.heap.size wr o done ∧ Below w.heap.size w wr) (fun _ n _ => (intOf n).toNat)
   case atStart => exact ⟨4, codeN x, [], by rw [EC.out], Formed.start h1 h2, E0.out.1, E0.out.2⟩
   case round =>
    obtain ⟨k, m, done, rfl, hF, hown, hb⟩ := hrel
    have m0 := hF.low
    have m1 := hF.high
    have hd : done.length ≤ 5 := by have := hF.room; omega
    have FO : Hid (Formed x done k m) := hF
    obtain ⟨av, cv, rfl, _, _⟩ := owns_shape hown
    have OW : Hid (OwnB w.heap.size wr (.slice av done.length cv) done) := hown
    have BS := hb.size
    have BB : Hid (Below w.heap.size w wr) := hb
    clear hF hown hb
    by_cases hm : 127 < m
    ·have hw8 : IntKind.u8.wrap (m % 128 + 128) = m % 128 + 128 := by rw [IntKind.wrap_u8]; omega
     go_wp2_with (at_builtin; refine app_one wr rfl _ _ 22 rfl w.heap.size 5 i0 _ 1 1 Try.underlying22 hi hz0 hz1 hz2 rfl (by decide) (.slice av done.length cv) done.length (flatB done) rfl OW.out [.int .u8 (m % 128 + 128)] rfl rfl (one_one _) (room5 hd).1 (room5 hd).2 BS ?_)
     intro v' w2 ho2 _ hb2
     obtain ⟨k', rfl, hF'⟩ := FO.out.step hm
     have O2 : OwnB w.heap.size w2 v' (done ++ [m % 128 + 128]) := by
      unfold OwnB; rw [flatB_snoc] at ho2; simpa using ho2
     have P : Hid _ := And.intro hF' (And.intro O2 (BB.out.trans hb2))
     clear ho2 hb2 hF' O2 FO OW BB
     go_wp2
     go_roundw
     case rel => exact ⟨k', m / 128, _, rfl, P.out.1, P.out.2.1, P.out.2.2⟩
     case measure => simp [intOf]; omega
    ·have hw8 : IntKind.u8.wrap m = m := by rw [IntKind.wrap_u8]; omega
     go_wp2_with (at_builtin; refine app_one wr rfl _ _ 22 rfl w.heap.size 5 i0 _ 1 1 Try.underlying22 hi hz0 hz1 hz2 rfl (by decide) (.slice av done.length cv) done.length (flatB done) rfl OW.out [.int .u8 m] rfl rfl (one_one _) (room5 hd).1 (room5 hd).2 BS ?_)
     intro v' w2 ho2 _ hb2
     have hs := FO.out.stop (by omega)
     have O2 : OwnB w.heap.size w2 v' (done ++ [m]) := by
      unfold OwnB; rw [flatB_snoc] at ho2; simpa using ho2
     rw [hs, ← PN.out] at O2
     have P : Hid _ := And.intro O2 (BB.out.trans hb2)
     clear ho2 hb2 O2 FO OW BB hs
     go_wp2
     go_ret
     exact ⟨_, rfl, P.out.1, P.out.2⟩
  ·have EC : Hid (codeN x = 2 * x) := by show _ = _; simp [codeN, hx]
   go_enter Try.func54, Try.ntmps54
   go_wp2_with (go_at_call 16; refine (l1InN_any _ _ _ _).mono ?_; rintro e w1 ⟨rfl, rfl⟩)
   go_loopw [3, 4] (fun o n wr => ∃ (k : Nat) (m : Int) (done : List Int), n = .int .i64 m ∧ Formed x done k m ∧ OwnB w.heap.size wr o done ∧ Below w.heap.size w wr) (fun _ n _ => (intOf n).toNat)
   case atStart => exact ⟨4, codeN x, [], by rw [EC.out], Formed.start h1 h2, E0.out.1, E0.out.2⟩
   case round =>
    obtain ⟨k, m, done, rfl, hF, hown, hb⟩ := hrel
    have m0 := hF.low
    have m1 := hF.high
    have hd : done.length ≤ 5 := by have := hF.room; omega
    have FO : Hid (Formed x done k m) := hF
    obtain ⟨av, cv, rfl, _, _⟩ := owns_shape hown
    have OW : Hid (OwnB w.heap.size wr (.slice av done.length cv) done) := hown
    have BS := hb.size
    have BB : Hid (Below w.heap.size w wr) := hb
    clear hF hown hb
    by_cases hm : 127 < m
    ·have hw8 : IntKind.u8.wrap (m % 128 + 128) = m % 128 + 128 := by rw [IntKind.wrap_u8]; omega
     go_wp2_with (at_builtin; refine app_one wr rfl _ _ 22 rfl w.heap.size 5 i0 _ 1 1 Try.underlying22 hi hz0 hz1 hz2 rfl (by decide) (.slice av done.length cv) done.length (flatB done) rfl OW.out [.int .u8 (m % 128 + 128)] rfl rfl (one_one _) (room5 hd).1 (room5 hd).2 BS ?_)
     intro v' w2 ho2 _ hb2
     obtain ⟨k', rfl, hF'⟩ := FO.out.step hm
     have O2 : OwnB w.heap.size w2 v' (done ++ [m % 128 + 128]) := by
      unfold OwnB; rw [flatB_snoc] at ho2; simpa using ho2
     have P : Hid _ := And.intro hF' (And.intro O2 (BB.out.trans hb2))
     clear ho2 hb2 hF' O2 FO OW BB
     go_wp2
     go_roundw
     case rel => exact ⟨k', m / 128, _, rfl, P.out.1, P.out.2.1, P.out.2.2⟩
     case measure => simp [intOf]; omega
    ·have hw8 : IntKind.u8.wrap m = m := by rw [IntKind.wrap_u8]; omega
     go_wp2_with (at_builtin; refine app_one wr rfl _ _ 22 rfl w.heap.size 5 i0 _ 1 1 Try.underlying22 hi hz0 hz1 hz2 rfl (by decide) (.slice av done.length cv) done.length (flatB done) rfl OW.out [.int .u8 m] rfl rfl (one_one _) (room5 hd).1 (room5 hd).2 BS ?_)
     intro v' w2 ho2 _ hb2
     have hs := FO.out.stop (by omega)
     have O2 : OwnB w.heap.size w2 v' (done ++ [m]) := by
      unfold OwnB; rw [flatB_snoc] at ho2; simpa using ho2
     rw [hs, ← PN.out] at O2
     have P : Hid _ := And.intro O2 (BB.out.trans hb2)
     clear ho2 hb2 O2 FO OW BB hs
     go_wp2
     go_ret
     exact ⟨_, rfl, P.out.1, P.out.2⟩
 ·have PN : Hid (putN x = []) := putN_out h
  have IB : inB x (-2000000000) 2000000000 = false := by simp [inB]; omega
  clear h
  go_enter Try.func54, Try.ntmps54
  go_wp2_with (go_at_call 16; refine (l1InN_any _ _ _ _).mono ?_; rintro e w1 ⟨rfl, rfl⟩)
  go_ret
  rw [PN.out]
  exact ⟨_, rfl, E0.out.1, E0.out.2⟩
end
section
open Go.RowKit

theorem Try.infoInt : (Try.prog.info? 3).map (fun i => (i.zero, i.size, i.bytes)) = some (some (.int .i64 0), 1, 8) := by kernel_rfl
def OwnI (base : Nat) (w : World) (v : Value) (l : List Int) : Prop := w.ownsRow base 3 1 v l.length (flatI l)
theorem flatI_append (l m : List Int) : flatI (l ++ m) = flatI l ++ flatI m := by simp [flatI]
theorem flatI_oneC (l : List Int) : ∀ y ∈ flatI l, y.oneCell' = true := by
 intro v hv
 obtain ⟨z, _, rfl⟩ := List.mem_map.1 hv
 rfl
theorem Row.nums {w : World} {v : Value} {l : List Int} (h : Row w v l.length (flatI l)) :
  ∃ (a : Option Addr) (b off cap : Nat), v = .slice a l.length cap ∧ l.length ≤ cap ∧ cap ≤ maxLen ∧ (0 < l.length → a = some ⟨b, off, none⟩) ∧
   (∀ i, i < l.length → w.cell? ⟨b, off + i, none⟩ = some (.int .i64 (iAt l i))) := by
 obtain ⟨a, b, off, cap, h1, h2, h3, h4, h5, _⟩ := h
 exact ⟨a, b, off, cap, h1, h2, h3, h4, fun i hi => h5 _ _ (flatI_at l i hi)⟩
theorem OwnI.row {base : Nat} {w : World} {v : Value} {l : List Int} (h : OwnI base w v l) : Row w v l.length (flatI l) := Row.of_owns h
abbrev okNums (l : List Int) : Prop := ∀ x ∈ l, -2000000000 ≤ x ∧ x ≤ 2000000000
theorem take_succI (l : List Int) (k : Nat) (hk : k < l.length) : l.take (k + 1) = l.take k ++ [iAt l k] := by
 rw [List.take_succ_eq_append_getElem hk]; simp [iAt, List.getD, hk]
theorem okNums_take {l : List Int} {k : Nat} (h : okNums (l.take k)) (hk : k < l.length) (hx : -2000000000 ≤ iAt l k ∧ iAt l k ≤ 2000000000) : okNums (l.take (k + 1)) := by
 rw [take_succI l k hk]
 intro x hx'
 rcases List.mem_append.1 hx' with h' | h'
 ·exact h x h'
 ·simp at h'; subst h'; exact hx
theorem okNums_not {l : List Int} {k : Nat} (hk : k < l.length) (hx : ¬ (-2000000000 ≤ iAt l k ∧ iAt l k ≤ 2000000000)) : ¬ okNums l := by
 intro h
 refine hx (h (iAt l k) ?_)
 have : iAt l k = l[k] := by simp [iAt, List.getD, hk]
 rw [this]; exact List.getElem_mem hk
def formsB (l : List Int) : List Int := l.flatMap putN
theorem formsB_length (l : List Int) : (formsB l).length ≤ 5 * l.length := by
 induction l with
 | nil => simp [formsB]
 | cons a l ih => have := putN_length a; simp only [formsB, List.flatMap_cons, List.length_append, List.length_cons] at *; omega
theorem formsB_succ (l : List Int) (k : Nat) (hk : k < l.length) : formsB (l.take (k + 1)) = formsB (l.take k) ++ putN (iAt l k) := by
 rw [take_succI l k hk]; simp [formsB]
theorem formsB_byte (l : List Int) : inByte (formsB l) := by
 intro b hb
 obtain ⟨x, _, hx⟩ := List.mem_flatMap.1 hb
 exact putN_byte x b hx

def pairNums (l : List (Int × Int)) : List Int := l.flatMap fun p => [p.1, p.2]
def msgNums (l : ML) : List Int := l.flatMap fun m => [m.1, m.2.1, m.2.2]
theorem pairNums_length (l : List (Int × Int)) : (pairNums l).length = 2 * l.length := by
 induction l with
 | nil => rfl
 | cons a l ih => simp only [pairNums, List.flatMap_cons, List.length_append, List.length_cons, List.length_nil] at *; omega
theorem msgNums_length (l : ML) : (msgNums l).length = 3 * l.length := by
 induction l with
 | nil => rfl
 | cons a l ih => simp only [msgNums, List.flatMap_cons, List.length_append, List.length_cons, List.length_nil] at *; omega
theorem pairNums_succ (l : List (Int × Int)) (k : Nat) (hk : k < l.length) : pairNums (l.take (k + 1)) = pairNums (l.take k) ++ [kOf l k, vOf l k] := by
 rw [take_succP l k hk]; simp [pairNums]
theorem msgNums_succ (l : ML) (k : Nat) (hk : k < l.length) : msgNums (l.take (k + 1)) = msgNums (l.take k) ++ [mO l k, mK l k, mV l k] := by
 have e : l[k] = (mO l k, mK l k, mV l k) := by simp [mO, mK, mV, List.getD, hk]
 rw [List.take_succ_eq_append_getElem hk, e]; simp [msgNums]
def leafNums (l : List (Int × Int)) : List Int := [1, (l.length : Int)] ++ pairNums l
def forkNums (T : Tr) (ks : List Int) : List Int := [0, (ks.length : Int)] ++ ks ++ T.cuts ++ [(T.buf.length : Int)] ++ msgNums T.buf
def nodeNums (T : Tr) (ks : List Int) : List Int := if T.leaf then leafNums T.pairs else forkNums T ks
abbrev nodeOkP (T : Tr) (ks : List Int) : Prop :=
 if T.leaf = true then ks.length = 0 ∧ T.cuts.length = 0 ∧ T.kids.length = 0 ∧ T.buf.length = 0 ∧ T.pairs.length ≤ 4
 else T.pairs.length = 0 ∧ ks.length = T.kids.length ∧ 1 ≤ ks.length ∧ ks.length ≤ 4 ∧ T.cuts.length + 1 = ks.length ∧ T.buf.length ≤ 6
theorem leafNums_length (l : List (Int × Int)) : (leafNums l).length = 2 + 2 * l.length := by simp [leafNums, pairNums_length]; omega
theorem forkNums_length (T : Tr) (ks : List Int) : (forkNums T ks).length = 3 + ks.length + T.cuts.length + 3 * T.buf.length := by simp [forkNums, msgNums_length]; omega
theorem nodeNums_length {T : Tr} {ks : List Int} (h : nodeOkP T ks) : (nodeNums T ks).length ≤ 40 := by
 unfold nodeOkP at h; unfold nodeNums
 split
 ·rename_i hl; rw [if_pos hl] at h; rw [leafNums_length]; omega
 ·rename_i hl; rw [if_neg hl] at h; rw [forkNums_length]; omega
def putNodeF (T : Tr) (ks : List Int) : Option (List Int) := if nodeOkP T ks ∧ okNums (nodeNums T ks) then some (formsB (nodeNums T ks)) else none
end
section
open Go.RowKit

def EndQ (P : Program) (st : Oper) (Q : Exit → Act → World → Prop) : Exit → Act → World → Prop
 | .normal, a, w => st.wp P a w (Q .normal) Q
 | e, a, w => Q e a w

def guardIn (n : Nat) (o : Oper) : Bool := match o.guard with
 | none => true
 | some (j, _) => decide (j < n)
def endB (l : List Oper) (st : Oper) : Bool :=
 (List.range l.length).all (fun i => match l[i]? with
  | some o => guardIn l.length o && o.after.toList.all fun e => decide (e.on < i)
  | none => false) && (st.guard.isNone && ((List.range l.length).all (fun i => (List.range (l.length + 1)).any fun m => decide (i < m) && match (l ++ [st])[m]? with
  | some o => o.after.toList.any fun e => Region.binds .any e && decide (e.on = i)
  | none => false) && st.after.toList.all fun e => decide (e.on < l.length)))

variable {P : Program} {l : List Oper} {st : Oper} {Q : Exit → Act → World → Prop}

def Sound (l : List Oper) (listed : Array Bool) : Prop := ∀ (i : Nat) (o : Oper), l[i]? = some o → listed.getD i false = true → ∀ e ∈ o.after, Region.binds .any e = true → listed.getD e.on false = true
end
section
open Go.RowKit
end
section
open Go.RowKit

theorem roomB {n m : Nat} (h : n + m ≤ 8388608) : n + m ≤ maxLen ∧ (n + m) * 1 ≤ 140737488355328 := ⟨by unfold maxLen; omega, by omega⟩

theorem l5Nums_any (v : Value) (l : List Int) (w : World) (h : Row w v l.length (flatI l)) (hn : l.length ≤ 1000) :
  Calls Try.prog 45 #[v] w fun e w' => Below w.heap.size w w' ∧ ∃ v', (okNums l ∧ e = .returned (.tuple #[v', .bool true]) ∧ OwnB w.heap.size w' v' (formsB l)) ∨ (¬ okNums l ∧ e = .returned (.tuple #[v', .bool false]) ∧ OwnB w.heap.size w' v' []) := by
 obtain ⟨a, b, off, cap, rfl, hcap, hmax, ha, hk⟩ := h.nums
 obtain ⟨i0, hi, hz0, hz1, hz2⟩ := info_parts Try.infoByte
 unfold maxLen at hmax
 have e0 : OwnB w.heap.size (w.alloc (.cells #[] 5)) (.slice (some ⟨w.heap.size, 0, none⟩) 0 0) [] := empty_own w w.heap.size 5 1 (Nat.le_refl _)
 have b0 : Below w.heap.size w (w.alloc (.cells #[] 5)) := (Below.refl _ _).alloc (Nat.le_refl _) _
 have E0 : Hid _ := And.intro e0 b0
 clear h e0 b0
 go_enter Try.func45, Try.ntmps45
 go_wp2
 go_loopw [4, 5] (fun o i wr => ∃ k : Nat, k ≤ l.length ∧ i = .int .i64 k ∧ okNums (l.take k) ∧ OwnB w.heap.size wr o (formsB (l.take k)) ∧ Below w.heap.size w wr)
  (fun _ i _ => l.length - (intOf i).toNat)
 case atStart => exact ⟨0, Nat.zero_le _, rfl, fun x hx => by simp at hx, by simpa [formsB] using E0.out.1, E0.out.2⟩
 case round =>
  obtain ⟨k, hkl, rfl, hok, hown, hb⟩ := hrel
  obtain ⟨av, cv, rfl, _, _⟩ := owns_shape hown
  have OW : Hid _ := And.intro hown (And.intro hok hb)
  clear hok
  by_cases hlt : k < l.length
  ·have hal := ha (by omega)
   subst hal
   have d0 : wr.cell? ⟨b, off + k, none⟩ = some (.int .i64 (iAt l k)) := (hb.cell (by exact cell_lt (hk k hlt))).trans (hk k hlt)
   have FSu : Hid _ := formsB_succ l k hlt
   have OK1 : Hid _ := fun h => okNums_take (l := l) (k := k) OW.out.2.1 hlt h
   have OK2 : Hid _ := fun h => okNums_not (l := l) (k := k) hlt h
   have hDl : (formsB (l.take k)).length ≤ 5000 := by have := formsB_length (l.take k); simp at this; omega
   generalize iAt l k = x at *
   generalize formsB (l.take k) = D at *
   clear hk ha hown hb
   go_wp2_with fail
   refine (specPutNum_any x _).mono ?_
   rintro e w1 ⟨v1, rfl, o1, b1⟩
   have R1 : Row w1 v1 (putN x).length (flatB (putN x)) := Row.of_owns o1
   have hPl := putN_length x
   obtain ⟨a1, q1, rfl, _, hq1⟩ := owns_shape o1
   have B1 : Hid (Below w.heap.size w w1) := OW.out.2.2.trans (b1.mono OW.out.2.2.size)
   have O1 : Hid (OwnB w.heap.size w1 (.slice av D.length cv) D ∧ Row w1 (.slice a1 (putN x).length q1) (putN x).length (flatB (putN x))) := ⟨owns_below OW.out.1 b1, R1⟩
   clear o1 b1 R1
   by_cases hx : -2000000000 ≤ x ∧ x ≤ 2000000000
   ·have hpos : 0 < (putN x).length := by
     rcases Nat.eq_zero_or_pos (putN x).length with h0 | h0
     ·exact absurd hx (fun hx => by rw [putN_in hx.1 hx.2] at h0; have := sevens_pos 4 (codeN x); omega)
     ·exact h0
    have N1 : Hid _ := OK1.out hx
    have BS := B1.out.size
    have HX : Hid _ := hx
    have HR : Hid _ := roomB (n := D.length) (m := (putN x).length) (by omega)
    have hne : (((putN x).length : Int) == 0) = false := by rw [beq_eq_false_iff_ne]; omega
    clear hx OK1 OK2
    generalize hp : putN x = P at *
    go_wp2_with (at_builtin; refine app_row w1 rfl _ _ 22 rfl w.heap.size 5 i0 _ 1 1 Try.underlying22 hi hz0 hz1 hz2 rfl (by decide) (.slice av D.length cv) D.length (flatB D) rfl O1.out.1 (.slice a1 P.length q1) P.length (flatB P) rfl O1.out.2 (by rw [flatB_length]; omega) (flatB_one _) HR.out.1 HR.out.2 BS ?_)
    intro v' w3 ho3 _ hb3
    have O3 : OwnB w.heap.size w3 v' (D ++ P) := by
     unfold OwnB; rw [flatB_append]; simpa using ho3
    have PP : Hid _ := And.intro O3 (B1.out.trans hb3)
    clear ho3 hb3 O3
    go_wp2
    go_roundw
    case rel => exact ⟨k + 1, by omega, by go_num, N1.out, by rw [FSu.out]; exact PP.out.1, PP.out.2⟩
    case measure => simp [intOf]; omega
   ·have h0 : (putN x).length = 0 := by rw [putN_out hx]; rfl
    have NO : Hid _ := OK2.out hx
    have F0 : Hid (OwnB w.heap.size (w1.alloc (.cells #[] 5)) (.slice (some ⟨w1.heap.size, 0, none⟩) 0 0) [] ∧ Below w.heap.size w (w1.alloc (.cells #[] 5))) := ⟨empty_own w1 w.heap.size 5 1 B1.out.size, B1.out.alloc B1.out.size _⟩
    clear hx OK1 OK2
    generalize (putN x).length = L at *
    subst h0
    go_wp2
    refine bodyPost_ret (v := .tuple #[.slice (some ⟨w1.heap.size, 0, none⟩) 0 0, .bool false]) (by simp [results, Try.results45, go_sem]) rfl ⟨F0.out.2, _, .inr ⟨NO.out, rfl, F0.out.1⟩⟩
  ·have hkk : k = l.length := by omega
   subst hkk
   rw [List.take_length] at OW ⊢
   have ho : Hid _ := OW.out
   clear OW hown hb
   go_wp2
   refine bodyPost_ret (v := .tuple #[.slice av (formsB l).length cv, .bool true]) (by simp [results, Try.results45, go_sem]) rfl ⟨ho.out.2.2, _, .inl ⟨ho.out.2.1, rfl, ho.out.1⟩⟩
end
end Go.Proofs.Ytekcnibohikmdaa

namespace Go.Proofs.Ytekcnibohikmdaa
section
open Go.RowKit

theorem Row.laidN (W : World) (xs : List Value) (e n : Nat) (_hn : xs.length = n) (h : n ≤ maxLen) : Row (W.alloc (.cells xs.toArray e)) (.slice (some ⟨W.heap.size, 0, none⟩) n n) n xs := by
 refine ⟨some ⟨W.heap.size, 0, none⟩, W.heap.size, 0, n, rfl, Nat.le_refl _, h, fun _ => rfl, fun j u hj => ?_, fun h => by cases h⟩
 rw [Nat.zero_add, cell_of_cells (heap_alloc_new W _)]
 simpa using hj
theorem OwnI.laid (W : World) (l : List Int) (base : Nat) (hb : base ≤ W.heap.size) (hl : l.length ≤ 1000) : OwnI base (W.alloc (.cells (flatI l).toArray 3)) (.slice (some ⟨W.heap.size, 0, none⟩) l.length l.length) l :=
 ⟨by simp [flatI], .inr ⟨W.heap.size, l.length, (flatI l).toArray, rfl, hb, heap_alloc_new W _, Nat.le_refl _, by unfold maxLen; omega, by simp [flatI], by rw [Nat.mul_one, List.toList_toArray, ← flatI_length l, List.take_length]⟩⟩
theorem OwnI.below {base : Nat} {w w' : World} {v : Value} {l : List Int} (h : OwnI base w v l) (hb : Below w.heap.size w w') : OwnI base w' v l := owns_below h hb
theorem OwnI.app {base : Nat} {w : World} {v : Value} {l m : List Int} (h : w.ownsRow base 3 1 v (l.length + m.length) (flatI l ++ flatI m)) : OwnI base w v (l ++ m) := by
 unfold OwnI; rw [flatI_append]; simpa using h
theorem roomI {n m : Nat} (h : n + m ≤ 100000) : n + m ≤ maxLen ∧ (n + m) * 8 ≤ 140737488355328 := ⟨by unfold maxLen; omega, by omega⟩

def forkOk (T : Tr) (ks : List Int) : Prop := 1 ≤ ks.length ∧ ks.length ≤ 4 ∧ T.cuts.length + 1 = ks.length ∧ T.buf.length ≤ 6

theorem Below.box {B : Nat} {W wr : World} {A : Array Value} {t : TypeId} (h : BoxAt t W B A) (hB : B < W.heap.size) (hb : Below W.heap.size W wr) : BoxAt t wr B A := (hb.block B hB).trans h
end
end Go.Proofs.Ytekcnibohikmdaa
