/-
  The copier's map: from where a list of kids stands to its copy.
  The copier's map, when something is laid into it.
  Trees in memory of their own, each row apart from all others.
  The contract of the model's l2Copy.
  What becomes of a tree in memory of its own when one of its rows is appended to, or written.
  Kid by kid, each in its place: what it comes to; plain mathematics.
  What shrunk messages do, key by key; plain mathematics.
  Trees side by side: each is right in its place, and tells of each key of its place what it should; plain mathematics.
  Leaves, parents and what is given down, as trees side by side; plain mathematics.
  The library's Max and Index over numbers; the program's busiest: the kid to which most messages belong.
  The contract of the program's busiest.
  The library's Grow and Concat, over trees and over numbers: any number of parts.
  The program's rows of trees: rowOf, kidsOf.
  The program's inPlaceOf: what came of a kid stands where it stood.
  The program's inTwos: parts of two each, three in the last one where there is one left.
  A row of trees that is being put together out of parts, in the program's boxes.
  The program's forksOf: one tree over the kids, or several of two each where they are too many for one.
  The program's leavesOf: one leaf, or several of two pairs each where they are too many for one.
  The contract of the model's l4Most.
  The contract of the model's l4Down, by that of l4Give.
  The model's drawing of numbers off the bytes of a code: what a cursor is, and that every draw returns.
  The model's drawing of keys, messages and maps: every draw returns, in memory of its own.
  The model's drawing of messages.
  Regions that draw their order and whose callees make memory of their own but write into none that was there: one walk in the text's order, over the class of all later worlds.
  Contracts of the model's Shrink and of what it asks.
  The contract of the model's Shrink.
  The contract of the model's l4Give, at a leaf.
  The contract of the model's l4Give, at a fork.
  l4Give at all depths; the contract of the model's l4Root.
  The program's rootOver: one tree of what came.
  The contract of the program's giveBusiest.
  The program's kidByKid, for the two functions that are handed to it.
  The program's giveDown: all messages given down, kid by kid.
  The contract of the program's giveDown.
  A scope with several labels: what holds at a jump to each, and a measure that every pass from a label lowers.
  The rounds in which messages come down; plain mathematics. A scope with two labels.
-/
import Derived.Test.YtdcladffnjikkaaOfWn7
import Derived.Laws.StructEq
import Derived.LaidEql
import Derived.MapKept
import Derived.Test.YtdcladffnjikkaaOfWn6
import Derived.Deep.RegionHeld3
import Derived.Deep.QuietTactic
import Derived.BigQuiet
import Derived.Deep.RegionWith
import Derived.Test.YtdcladffnjikkaaOfWn1
import Derived.Deep.LoopGhost
import Derived.WalkMore
import Derived.ScopeJumps
import Derived.Scope
namespace Go.Proofs.Ytdcladffnjikkaa
set_option maxRecDepth 100000
set_option maxHeartbeats 8000000
section
open Go.RowKit

def keyV (a : Addr) (n : Int) : Value := .agg #[.pointer (some a), .int .i64 n]

theorem key_fields : ∃ f1 f2 : Field, (Try.prog.fieldsOf 127).toList = [f1, f2] ∧ f1.name = "first" ∧ f1.type = 113 ∧ f1.offset = 0 ∧ f2.name = "count" ∧ f2.type = 3 ∧ f2.offset = 1 := by
 have hF : (Try.prog.fieldsOf 127).toList.map (fun f => (f.name, f.type, f.offset)) = [("first", 113, 0), ("count", 3, 1)] := by kernel_rfl
 generalize (Try.prog.fieldsOf 127).toList = l at hF
 have hl : l.length = 2 := by have := congrArg List.length hF; simpa using this
 rcases l with _ | ⟨f1, _ | ⟨f2, _ | ⟨f3, l⟩⟩⟩ <;> simp at hl
 simp at hF
 exact ⟨f1, f2, rfl, hF.1.1, hF.1.2.1, hF.1.2.2, hF.2.1, hF.2.2.1, hF.2.2.2⟩

theorem keyEq (a b : Addr) (n m : Int) (w : World) (ha : Plain w a.block) (hb : Plain w b.block) :
  (Op.equalIn 10000 127 (keyV a n) (keyV b m)).run Try.prog w = .ok (a == b && n == m) w := by
 have u3 := Try.underlying3
 have hS : Try.prog.underlying 127 = some (.struct (Try.prog.fieldsOf 127)) := by kernel_rfl
 have hp : Try.prog.stoodInHeld 127 = false := by kernel_rfl
 have P1 : ∀ (a : Addr) (n : Int) w, (part 113 #[.pointer (some a), .int .i64 n] 0).run Try.prog w = .ok (.pointer (some a)) w := fun a n w => by kernel_rfl
 have P2 : ∀ (a : Addr) (n : Int) w, (part 3 #[.pointer (some a), .int .i64 n] 1).run Try.prog w = .ok (.int .i64 n) w := fun a n w => by kernel_rfl
 have hu : Try.prog.underlying 113 = some (.pointer 43) := by kernel_rfl
 obtain ⟨i0, hi0, _, hz1, _⟩ := info_parts Try.info43
 have E0 : ∀ d : Nat, (Op.equalIn (d + 1) 113 (.pointer (some a)) (.pointer (some b))).run Try.prog w = .ok (a == b) w := fun d => by
  have hs : (sizeOf 43).run Try.prog w = .ok 5 w := by simp [sizeOf, typeInfo, hi0, hz1, run_program]
  have h2 : (sameAddr a b).run Try.prog w = .ok (a == b) w := by
   by_cases e : a = b
   ·subst e
    simpa using run_sameAddr_same (P := Try.prog) (w := w) a
   ·obtain ⟨c1, t1, h1⟩ := ha
    obtain ⟨c2, t2, h2⟩ := hb
    have := run_sameAddr_other (P := Try.prog) w e h1 h2
    rw [this]
    simp [e]
  simp [Op.equalIn, run_underlying hu, hs, h2]
 have E1 : (Op.equalIn 9999 113 (.pointer (some a)) (.pointer (some b))).run Try.prog w = .ok (a == b) w := E0 9998
 have E2 : (Op.equalIn 9999 3 (.int .i64 n) (.int .i64 m)).run Try.prog w = .ok (n == m) w := run_equalIn_int w 9998 3 .i64 .i64 n m u3
 unfold keyV
 rw [show (10000 : Nat) = 9999 + 1 from rfl, run_equalIn_agg w 9999 127 _ _ hS hp]
 obtain ⟨f1, f2, hF, q1, q2, q3, q4, q5, q6⟩ := key_fields
 rw [hF]
 simp only [Op.eqFields, q1, q2, q3, q4, q5, q6, Sem.run_bind, Sem.run_ite, P1, P2, E1, E2, Result.andThen_ok]
 by_cases h1 : a = b <;> by_cases h2 : n = m <;> simp [h1, h2]

def KeysIn0 (w : World) (V : Nat → Prop) (es : List MapEntry) : Prop := ∀ e ∈ es, ∃ a n, e.key = keyV a n ∧ Plain w a.block ∧ V a.block

def MadeAt (w : World) (M : Nat) (V : Nat → Prop) : Prop := ∃ es clock, w.heap[M]? = some (.map es clock) ∧ KeysIn0 w V es.toList

theorem find_made {w : World} {V : Nat → Prop} (a : Addr) (n : Int) (ha : Plain w a.block) : ∀ (es : List MapEntry) (i : Nat), KeysIn0 w V es → ∃ r, (∀ w', w'.heap = w.heap → (Instr.findAsking 127 (keyV a n) es i).run Try.prog w' = .ok r w') ∧ ∀ j v, r = some (j, v) → V a.block ∧ i ≤ j ∧ ∃ e, es[j - i]? = some e ∧ e.key = keyV a n
 | [], i, _ => ⟨none, fun _ _ => rfl, fun _ _ h => by simp at h⟩
 | e :: es, i, h => by
  obtain ⟨b, m, he, hb, hv⟩ := h e (by simp)
  obtain ⟨r, hr, hq⟩ := find_made a n ha es (i + 1) (fun x hx => h x (by simp [hx]))
  have hE : ∀ w', w'.heap = w.heap → (Op.equal 127 (keyV a n) e.key).run Try.prog w' = .ok (a == b && n == m) w' := fun w' hw => by rw [he]; exact keyEq a b n m w' (by rw [Plain, hw]; exact ha) (by rw [Plain, hw]; exact hb)
  cases hc : (a == b && n == m)
  ·refine ⟨r, ?_, fun j v hj => ?_⟩
   ·intro w' hw
    simp [Instr.findAsking, hE w' hw, hc, hr w' hw]
   ·obtain ⟨q1, q2, e', q3, q4⟩ := hq j v hj
    refine ⟨q1, by omega, e', ?_, q4⟩
    rw [show j - i = (j - (i + 1)) + 1 by omega]
    simpa using q3
  ·simp only [Bool.and_eq_true, beq_iff_eq] at hc
   obtain ⟨rfl, rfl⟩ := hc
   refine ⟨some (i, e.val), ?_, fun j v hj => ?_⟩
   ·intro w' hw
    simp [Instr.findAsking, hE w' hw]
   ·simp at hj
    obtain ⟨rfl, rfl⟩ := hj
    exact ⟨hv, Nat.le_refl _, e, by simp, he⟩

theorem findKey_made {w : World} {V : Nat → Prop} (a : Addr) (n : Int) (ha : Plain w a.block) (es : List MapEntry) (h : KeysIn0 w V es) : ∃ r, (∀ w', w'.heap = w.heap → (Instr.findKey 127 (keyV a n) es).run Try.prog w' = .ok r w') ∧ ∀ j v, r = some (j, v) → V a.block ∧ ∃ e, es[j]? = some e ∧ e.key = keyV a n := by
 have hS : Try.prog.underlying 127 = some (.struct (Try.prog.fieldsOf 127)) := by kernel_rfl
 cases es with
 | nil => exact ⟨none, fun w' _ => by simp [Instr.findKey, run_underlying hS, Instr.findNow], fun _ _ h => by simp at h⟩
 | cons e es =>
  obtain ⟨r, hr, hq⟩ := find_made a n ha (e :: es) 0 h
  refine ⟨r, ?_, fun j v hj => ?_⟩
  ·intro w' hw
   simp [Instr.findKey, run_underlying hS, Instr.findNow, Instr.sameNow, hr w' hw]
  ·obtain ⟨q1, _, e', q3, q4⟩ := hq j v hj
   exact ⟨q1, e', by simpa using q3, q4⟩

theorem check_key (b : Bool) (a : Addr) (n : Int) (w : World) : (Instr.checkKey b 10000 127 (keyV a n)).run Try.prog w = .ok () w := by kernel_rfl

theorem look_made {w : World} {M : Nat} {V : Nat → Prop} (hM : MadeAt w M V) (a : Addr) (n : Int) (ha : Plain w a.block) : ∃ v met, (∀ w', w'.heap = w.heap → (Instr.lookup 112 (.map (some M)) (keyV a n) true).run Try.prog w' = .ok (.tuple #[v, .bool met]) w') ∧ (met = true → V a.block) := by
 obtain ⟨es, clock, hb, hk⟩ := hM
 have hu : Try.prog.underlying 112 = some (.map 127 40) := by kernel_rfl
 have hz : ∀ w', (zeroValue 40).run Try.prog w' = .ok (.slice none 0 0) w' := fun w' => by kernel_rfl
 obtain ⟨r, hr, hq⟩ := findKey_made a n ha es.toList hk
 cases r with
 | none => exact ⟨.slice none 0 0, false, fun w' hw => by simp [Instr.lookup, run_underlying hu, MapKept.run_getObj_map (w := w') (by rw [hw]; exact hb), check_key, hr w' hw, hz], fun h => by simp at h⟩
 | some r => exact ⟨r.2, true, fun w' hw => by simp [Instr.lookup, run_underlying hu, MapKept.run_getObj_map (w := w') (by rw [hw]; exact hb), check_key, hr w' hw], fun _ => (hq r.1 r.2 rfl).1⟩
end
section
open Go.RowKit

def setM (w : World) (M : Nat) (o : Obj) : World := { w with heap := w.heap.setIfInBounds M o }

theorem chg_setM (w : World) (M : Nat) (o : Obj) : Chg (fun g => g = M) w (setM w M o) :=
 ⟨rfl, rfl, rfl, by simp [setM], fun k _ hk => by simp [setM, Array.getElem?_setIfInBounds]; intro e; exact absurd e.symm hk⟩

theorem Plain.chg {P : Nat → Prop} {w w' : World} {b : Nat} (h : Plain w b) (hc : Chg P w w') (hP : ¬ P b) : Plain w' b := by
 obtain ⟨c, t, h⟩ := h
 exact ⟨c, t, (hc.block b (Array.getElem?_eq_some_iff.1 h).1 hP).trans h⟩

theorem sameKey (a : Addr) (n : Int) : Instr.sameBits 10000 (keyV a n) (keyV a n) = true := by
 show Instr.sameBits (9999 + 1) _ _ = true
 unfold keyV
 rw [Instr.sameBits]
 simp [Instr.sameBits]

theorem put_made {w : World} {M : Nat} {V : Nat → Prop} (hM : MadeAt w M V) (a : Addr) (n : Int) (x : Value) (ha : Plain w a.block) : ∃ es' clock', (Instr.mapUpdate 112 (.map (some M)) (keyV a n) x).run Try.prog w = .ok () (setM w M (.map es' clock')) ∧ MadeAt (setM w M (.map es' clock')) M (fun g => V g ∨ g = a.block) := by
 obtain ⟨es, clock, hb, hk⟩ := hM
 have hu : Try.prog.underlying 112 = some (.map 127 40) := by kernel_rfl
 obtain ⟨r, hr, hq⟩ := findKey_made a n ha es.toList hk
 have hMlt : M < w.heap.size := (Array.getElem?_eq_some_iff.1 hb).1
 have hset : ∀ o : Obj, (setObj M o).run Try.prog w = .ok () (setM w M o) := fun o => by simp [setObj, Sem.run, hb, setM]
 have hne : ∀ b, Plain w b → ¬ b = M := fun b ⟨c, t, h⟩ e => by subst e; rw [hb] at h; simp at h
 have hM2 : ∀ o : Obj, (setM w M o).heap[M]? = some o := fun o => by simp [setM, hMlt]
 cases r with
 | none =>
  refine ⟨es.push { key := keyV a n, val := x, born := clock }, clock + 1, ?_, _, _, hM2 _, fun e he => ?_⟩
  ·simp [Instr.mapUpdate, run_underlying hu, MapKept.run_getObj_map hb, check_key, hr w rfl, hset]
  ·simp only [Array.toList_push, List.mem_append, List.mem_singleton] at he
   rcases he with he | rfl
   ·obtain ⟨b, m, h1, h2, h3⟩ := hk e he
    exact ⟨b, m, h1, h2.chg (chg_setM _ _ _) (hne _ h2), .inl h3⟩
   ·exact ⟨a, n, rfl, ha.chg (chg_setM _ _ _) (hne _ ha), .inr rfl⟩
 | some r =>
  obtain ⟨j, v⟩ := r
  obtain ⟨hV, e0, h0, h1⟩ := hq j v rfl
  have hj : es[j]? = some e0 := by simpa using h0
  refine ⟨es.modify j fun e => { e with key := keyV a n, val := x }, clock, ?_, _, _, hM2 _, fun e he => ?_⟩
  ·simp [Instr.mapUpdate, run_underlying hu, MapKept.run_getObj_map hb, check_key, hr w rfl, hset, hj, h1, Instr.keyThatStays, sameKey]
  ·obtain ⟨i, hi, rfl⟩ := List.getElem_of_mem he
   simp only [Array.getElem_toList, Array.getElem_modify]
   split
   ·exact ⟨a, n, rfl, ha.chg (chg_setM _ _ _) (hne _ ha), .inr rfl⟩
   ·have hi' : i < es.size := by simpa using hi
    obtain ⟨b, m, k1, k2, k3⟩ := hk es[i] (by simp)
    exact ⟨b, m, k1, k2.chg (chg_setM _ _ _) (hne _ k2), .inl k3⟩

theorem MadeAt.chg {P : Nat → Prop} {w w' : World} {M : Nat} {V : Nat → Prop} (h : MadeAt w M V) (hc : Chg P w w') (hM : ¬ P M) (hV : ∀ g, P g → ∀ c t, w.heap[g]? = some (.cells c t (0, 0)) → ∃ c' t', w'.heap[g]? = some (.cells c' t' (0, 0))) : MadeAt w' M V := by
 obtain ⟨es, clock, hb, hk⟩ := h
 refine ⟨es, clock, (hc.block M (Array.getElem?_eq_some_iff.1 hb).1 hM).trans hb, fun e he => ?_⟩
 obtain ⟨a, n, h1, ⟨c, t, h2⟩, h3⟩ := hk e he
 refine ⟨a, n, h1, ?_, h3⟩
 by_cases hp : P a.block
 ·exact hV _ hp c t h2
 ·exact ⟨c, t, (hc.block _ (Array.getElem?_eq_some_iff.1 h2).1 hp).trans h2⟩
theorem MadeAt.step {w w' : World} {M : Nat} {V : Nat → Prop} (h : MadeAt w M V) (hb : Below w.heap.size w w') : MadeAt w' M V := by
 obtain ⟨es, clock, hb', hk⟩ := h
 refine ⟨es, clock, (hb.block M (Array.getElem?_eq_some_iff.1 hb').1).trans hb', fun e he => ?_⟩
 obtain ⟨a, n, h1, ⟨c, t, h2⟩, h3⟩ := hk e he
 exact ⟨a, n, h1, ⟨c, t, (hb.block _ (Array.getElem?_eq_some_iff.1 h2).1).trans h2⟩, h3⟩
end
section
open Go.RowKit

theorem OwnE.frame {w w' : World} {base e size n : Nat} {v : Value} {xs : List Value} (h : OwnE w base e size v n xs) (hf : ∀ g, wrB v g → g < w.heap.size → w'.heap[g]? = w.heap[g]?) : OwnE w' base e size v n xs := by
 rcases h with h | h
 ·obtain ⟨hl, h | ⟨g, cap, cur, rfl, hg, hh, hn, hcap, hsz, htake⟩⟩ := h
  ·exact .inl ⟨hl, .inl h⟩
  ·rcases Nat.eq_zero_or_pos cap with h1 | h1
   ·subst h1
    have : n = 0 := by omega
    subst this
    exact .inr ⟨rfl, List.length_eq_zero_iff.1 (by omega), g, rfl⟩
   ·exact .inl ⟨hl, .inr ⟨g, cap, cur, rfl, hg, (hf g ⟨_, _, rfl, h1⟩ (Array.getElem?_eq_some_iff.1 hh).1).trans hh, hn, hcap, hsz, htake⟩⟩
 ·exact .inr h

def TreeD : Nat → World → (Nat → Prop) → TV → Tr → Prop
 | 0, _, _, _, _ => False
 | n + 1, w, F, x, T => x.lf = T.leaf ∧ OwnE w 0 103 2 x.p T.pairs.length (flatP T.pairs) ∧ OwnE w 0 3 1 x.c T.cuts.length (flatI T.cuts) ∧ OwnE w 0 73 3 x.b T.buf.length (flatM T.buf) ∧
   (∀ g, wrB x.p g ∨ wrB x.c g ∨ wrB x.b g ∨ wrB x.k g → F g) ∧
   ∃ (xs : List TV) (K : Nat → Nat → Prop), xs.length = T.kids.length ∧ OwnE w 0 43 5 x.k xs.length (flatT xs) ∧
    (∀ i, i < xs.length → TreeD n w (K i) (tvAt xs i) (T.kids.getD i noTr)) ∧
    (∀ i g, i < xs.length → K i g → F g ∧ ¬ (wrB x.p g ∨ wrB x.c g ∨ wrB x.b g ∨ wrB x.k g)) ∧
    (∀ i j g, i < j → j < xs.length → K i g → ¬ K j g)

theorem TreeD.treeF : ∀ {n : Nat} {w : World} {F : Nat → Prop} {x : TV} {T : Tr}, TreeD n w F x T → TreeF n w F x T
 | 0, _, _, _, _, h => h.elim
 | n + 1, w, F, x, T, ⟨h1, h2, h3, h4, h5, xs, K, k1, k2, k3, k4, k5⟩ => by
  refine TreeF.mk h1 (h2.rowF.mono (fun g hg => h5 g (.inl hg))) (h3.rowF.mono (fun g hg => h5 g (.inr (.inl hg)))) (h4.rowF.mono (fun g hg => h5 g (.inr (.inr (.inl hg))))) ⟨xs, k1, ?_, fun i hi => (k3 i hi).treeF.mono (fun g hg => (k4 i g hi hg).1)⟩
  have := k2.rowF.mono (G := F) (fun g hg => h5 g (.inr (.inr (.inr hg))))
  exact this
theorem TreeD.mono : ∀ {n : Nat} {w : World} {F G : Nat → Prop} {x : TV} {T : Tr}, TreeD n w F x T → (∀ g, F g → G g) → TreeD n w G x T
 | 0, _, _, _, _, _, h, _ => h.elim
 | _ + 1, _, _, _, _, _, ⟨h1, h2, h3, h4, h5, xs, K, k1, k2, k3, k4, k5⟩, hk => ⟨h1, h2, h3, h4, fun g hg => hk g (h5 g hg), xs, K, k1, k2, k3, fun i g hi hg => ⟨hk g (k4 i g hi hg).1, (k4 i g hi hg).2⟩, k5⟩
theorem TreeD.frame : ∀ {n : Nat} {w w' : World} {F : Nat → Prop} {x : TV} {T : Tr}, TreeD n w F x T → (∀ g, F g → g < w.heap.size → w'.heap[g]? = w.heap[g]?) → TreeD n w' F x T
 | 0, _, _, _, _, _, h, _ => h.elim
 | _ + 1, _, _, _, _, _, ⟨h1, h2, h3, h4, h5, xs, K, k1, k2, k3, k4, k5⟩, hf => ⟨h1, h2.frame (fun g hg => hf g (h5 g (.inl hg))), h3.frame (fun g hg => hf g (h5 g (.inr (.inl hg)))), h4.frame (fun g hg => hf g (h5 g (.inr (.inr (.inl hg))))), h5, xs, K, k1, k2.frame (fun g hg => hf g (h5 g (.inr (.inr (.inr hg))))), fun i hi => (k3 i hi).frame (fun g hg => hf g (k4 i g hi hg).1), k4, k5⟩
theorem TreeD.lt : ∀ {n : Nat} {w : World} {F : Nat → Prop} {x : TV} {T : Tr}, TreeD n w F x T → TreeD n w (fun g => F g ∧ g < w.heap.size) x T
 | 0, _, _, _, _, h => h.elim
 | _ + 1, _, _, _, _, ⟨h1, h2, h3, h4, h5, xs, K, k1, k2, k3, k4, k5⟩ => ⟨h1, h2, h3, h4, fun g hg => ⟨h5 g hg, by
   rcases hg with h | h | h | h
   ·exact (h2.lt g h).2
   ·exact (h3.lt g h).2
   ·exact (h4.lt g h).2
   ·exact (k2.lt g h).2⟩, xs, fun i g => K i g ∧ g < _, k1, k2, fun i hi => (k3 i hi).lt, fun i g hi hg => ⟨⟨(k4 i g hi hg.1).1, hg.2⟩, (k4 i g hi hg.1).2⟩, fun i j g hij hj hg hg' => k5 i j g hij hj hg.1 hg'.1⟩
theorem TreeD.chg {n : Nat} {w w' : World} {F P : Nat → Prop} {x : TV} {T : Tr} (h : TreeD n w F x T) (hc : Chg P w w') (hd : ∀ g, F g → ¬ P g) : TreeD n w' F x T := h.frame fun g hg hl => hc.block g hl (hd g hg)
theorem TreeD.below {n : Nat} {w w' : World} {F : Nat → Prop} {x : TV} {T : Tr} (h : TreeD n w F x T) (hb : Below w.heap.size w w') : TreeD n w' F x T := h.frame fun g _ hl => hb.block g hl
end
section
open Go.RowKit
end
section
open Go.RowKit

theorem OwnE.block {w : World} {base e size n : Nat} {v : Value} {xs : List Value} (h : OwnE w base e size v n xs) : ∀ g, wrB v g → ∃ cur, w.heap[g]? = some (.cells cur e (0, 0)) := by
 rintro g ⟨k, cap, rfl, hc⟩
 rcases h with h | ⟨_, _, g', hg⟩
 ·obtain ⟨_, ⟨h1, _⟩ | ⟨g', cap', cur, h1, hg, hh, _⟩⟩ := h
  ·simp at h1
  ·simp at h1
   rw [← h1.1] at hh
   exact ⟨cur, hh⟩
 ·simp at hg
  omega
theorem OwnE.apart {w : World} {b1 b2 e1 e2 s1 s2 n1 n2 : Nat} {v1 v2 : Value} {x1 x2 : List Value} (h1 : OwnE w b1 e1 s1 v1 n1 x1) (h2 : OwnE w b2 e2 s2 v2 n2 x2) (he : e1 ≠ e2) : ∀ g, wrB v1 g → ¬ wrB v2 g := by
 intro g k1 k2
 obtain ⟨c1, j1⟩ := h1.block g k1
 obtain ⟨c2, j2⟩ := h2.block g k2
 rw [j1] at j2
 simp at j2
 exact he j2.2
theorem OwnE.pos {w : World} {base e size n : Nat} {v : Value} {xs : List Value} (h : OwnE w base e size v n xs) (hn : 0 < n) : ∃ g cap, v = .slice (some ⟨g, 0, none⟩) n cap ∧ 0 < cap ∧ n ≤ cap := by
 rcases h with h | ⟨h, _⟩
 ·obtain ⟨g, cap, h1, h2, h3⟩ := h.form hn
  refine ⟨g, cap, h1, ?_, ?_⟩
  ·obtain ⟨_, ⟨k1, _⟩ | ⟨g', cap', cur, k1, _, _, k4, _⟩⟩ := h
   ·rw [h1] at k1; simp at k1
   ·rw [h1] at k1; simp at k1; omega
  ·obtain ⟨_, ⟨k1, _⟩ | ⟨g', cap', cur, k1, _, _, k4, _⟩⟩ := h
   ·rw [h1] at k1; simp at k1
   ·rw [h1] at k1; simp at k1; omega
 ·omega

variable {n : Nat} {w w' : World} {F : Nat → Prop} {lf : Bool} {p c k b : Value} {T : Tr}
end
section
def kbk (f : Nat → TM) (m : TM) (k : Nat) : TM := (sideT f k ++ m.1.drop k, sideC f m.2 k ++ m.2.drop (k - 1))
end
section
def effK (k : Int) (s : Int × Bool) (m : Int × Int × Int) : Int × Bool :=
 if m.2.1 = k then (if m.1 = 1 then (m.2.2, true) else if m.1 = 2 then (0, false) else if m.1 = 3 then (clampI (s.1 + m.2.2), true) else s) else s
def Good (A : ML) : Prop := A.Pairwise fun a b => a.2.1 = b.2.1 → a.1 ≠ 1 ∧ rulB b = false
end
section
def Rt (d : Nat) (f : Int → Int × Bool) (lo hi : Int) (t : Tr) : Prop := depthF d t lo hi = d ∧ ∀ k, lo ≤ k → k < hi → valF d t k = f k
def Seg (d : Nat) (f : Int → Int × Bool) : Int → Int → List Int → List Tr → Prop
 | lo, hi, [], [t] => Rt d f lo hi t
 | lo, hi, c :: cs, t :: ts => Rt d f lo c t ∧ lo < c ∧ c < hi ∧ Seg d f c hi cs ts
 | _, _, _, _ => False
def MsIn (lo hi : Int) (ms : ML) : Prop := ∀ m ∈ ms, okN m ∧ lo ≤ m.2.1 ∧ m.2.1 < hi
def CsIn (lo hi : Int) (cs : List Int) : Prop := ∀ i, i < cs.length → frC cs lo i < iAt cs i ∧ iAt cs i < hi

variable {d : Nat} {f g h : Int → Int × Bool}
end
section
variable {d : Nat} {f g h : Int → Int × Bool}

def loF (ps : PL) (lo : Int) (i : Nat) : Int := if i = 0 then lo else kOf ps i
def GiveS (d : Nat) (g : Tr → ML → TM) : Prop := ∀ T ms lo hi, depthF d T lo hi = d → MsIn lo hi ms → Seg d (fun k => updA (valF d T k) (ofK ms k)) lo hi (g T ms).2 (g T ms).1
end
section
open Go.RowKit
end
section
open Go.RowKit

def cntL (cs : List Int) (b : ML) (k : Nat) : List Int := (List.range (cs.length + 1)).map fun i => ((mineF cs i (b.take k)).length : Int)
end
section
open Go.RowKit
end
section
open Go.RowKit

abbrev AllB : Nat → Prop := fun _ => True
end
section
open Go.RowKit

abbrev setR (u : World) (L : Nat) (x y : Value) : World := (u.setCell ⟨L, 0, none⟩ x).setCell ⟨L, 1, none⟩ y
theorem hkeep {u u' : World} {b : Nat} {o : Obj} (hb : Below u.heap.size u u') (h : u.heap[b]? = some o) : u'.heap[b]? = some o := (hb.block b (Array.getElem?_eq_some_iff.1 h).1).trans h
theorem hnew {u : World} {b : Nat} {o : Obj} (h : b = u.heap.size) : (u.alloc o).heap[b]? = some o := by subst h; exact heap_alloc_new u o
end
section
open Go.RowKit

def piecesF (n : Nat) : Nat → Nat → List (Nat × Nat)
 | 0, _ => []
 | f + 1, i => if i < n then (i, manyN (n - i)) :: piecesF n f (i + manyN (n - i)) else []
def pieces (n i : Nat) : List (Nat × Nat) := piecesF n (n - i) i
abbrev pieceV (b off q size : Nat) (p : Nat × Nat) : Value := .slice (some ⟨b, off + p.1 * size, none⟩) p.2 (q - p.1)
end
section
open Go.RowKit

variable {d st k : Nat} {G : Nat → Prop} {w wr w' : World} {vt vc vt' vc' vp : Value} {ts us : List Tr} {cs ds : List Int} {PL : List Value}
end
section
open Go.RowKit
end
section
open Go.RowKit
end
section
open Go.RowKit
end
section
open Go.RowKit
end
section
open Go.RowKit
end
section
open Go.RowKit

def Code8 (w : World) (v : Value) (bs : List Int) : Prop := Row w v bs.length (bs.map (Value.int .u8)) ∧ ∀ j, 0 ≤ bs.getD j 0 ∧ bs.getD j 0 ≤ 255
end
section
open Go.RowKit
end
section
open Go.RowKit

structure Bel (w : World) where
 now : World
 bel : Below w.heap.size w now
end
section
open Go.RowKit
end
section
open Go.RowKit
end
section
open Go.RowKit
end
section
open Go.RowKit

def lenV : Value → Nat
 | .slice _ n _ => n
 | _ => 0
end
section
open Go.RowKit
end
section
open Go.RowKit

def BoxT (u : World) (B : Nat) (A : Array Value) : Prop := u.heap[B]? = some (.cells A 43 (0, 0))
theorem BoxT.cells {u : World} {B : Nat} {A : Array Value} (h : BoxT u B A) : ∀ j, u.cell? ⟨B, j, none⟩ = A[j]? := fun j => cell_of_row u B j A 43 (0, 0) h
theorem BoxT.free {u : World} {B : Nat} {A : Array Value} (h : BoxT u B A) : ∀ j, u.frozen? ⟨B, j, none⟩ = false := fun j => frozen_of_row u B j A 43 h
abbrev noT : Array Value := #[.bool false, .slice none 0 0, .slice none 0 0, .slice none 0 0, .slice none 0 0]

abbrev setT (u : World) (L : Nat) (y0 y1 y2 y3 y4 : Value) : World := ((((u.setCell ⟨L, 0, none⟩ y0).setCell ⟨L, 1, none⟩ y1).setCell ⟨L, 2, none⟩ y2).setCell ⟨L, 3, none⟩ y3).setCell ⟨L, 4, none⟩ y4
theorem BoxT.set5 {u : World} {L : Nat} {x0 x1 x2 x3 x4 : Value} (h : BoxT u L #[x0, x1, x2, x3, x4]) (y0 y1 y2 y3 y4 : Value) : BoxT (setT u L y0 y1 y2 y3 y4) L #[y0, y1, y2, y3, y4] :=
 heap_setCell_same _ L 4 _ 43 y4 (heap_setCell_same _ L 3 _ 43 y3 (heap_setCell_same _ L 2 _ 43 y2 (heap_setCell_same _ L 1 _ 43 y1 (heap_setCell_same u L 0 _ 43 y0 h))))
theorem chg_setT (u : World) (L : Nat) (y0 y1 y2 y3 y4 : Value) : Chg (fun g => g = L) u (setT u L y0 y1 y2 y3 y4) := (((((Chg.refl (fun g => g = L) u).setAt L 0 rfl y0).setAt L 1 rfl y1).setAt L 2 rfl y2).setAt L 3 rfl y3).setAt L 4 rfl y4
theorem setT_below {w u : World} {L : Nat} (h : Below w.heap.size w u) (hL : w.heap.size ≤ L) (y0 y1 y2 y3 y4 : Value) : Below w.heap.size w (setT u L y0 y1 y2 y3 y4) :=
 ((((h.setCell (p := ⟨L, 0, none⟩) hL y0).setCell (p := ⟨L, 1, none⟩) hL y1).setCell (p := ⟨L, 2, none⟩) hL y2).setCell (p := ⟨L, 3, none⟩) hL y3).setCell (p := ⟨L, 4, none⟩) hL y4

def boxLen (B : Nat) (w : World) : Nat := match w.cell? ⟨B, 0, none⟩ with | some (.slice _ n _) => n | _ => 0
end
section
open Go.RowKit
end
section
open Go.RowKit
end
section
open Go.RowKit
end
section
open Go.RowKit
end
section
open Go.RowKit

def jumpsTo (J : Nat → Act → World → Prop) (Q : Exit → Act → World → Prop) : Exit → Act → World → Prop
 | .goto l, a, w => J l a w
 | e, a, w => Q e a w
end
section
open Go.RowKit

def jumps2 (J0 J1 : Act → World → Prop) (Q : Exit → Act → World → Prop) : Exit → Act → World → Prop
 | .goto 0, a, w => J0 a w
 | .goto 1, a, w => J1 a w
 | .goto _, _, _ => False
 | e, a, w => Q e a w
end
end Go.Proofs.Ytdcladffnjikkaa
