/-
  The program's slices.Clone, of pairs, cuts, messages and kids.
  The copier's map: from where a list of kids stands to its copy.
  The copier's map, when something is laid into it.
  Trees in memory of their own, each row apart from all others.
-/
import Derived.Test.YtmdajbbpigbdcaaGreatOfRise8
import Derived.Test.YtmdajbbpigbdcaaGreatOfRise9
import Derived.Lib.BufferMore
import Derived.Laws.StructEq
import Derived.LaidEql
import Derived.MapKept
namespace Go.Proofs.YtmdajbbpigbdcaaGreat
set_option maxRecDepth 100000
set_option maxHeartbeats 8000000
section
open Go.RowKit

theorem clone105_any (v : Value) (n : Nat) (xs : List Value) (w : World) (h : Row w v n xs) (hl : xs.length = n * 2) (h1 : ∀ y ∈ xs, y.oneCell' = true) (hn : n ≤ 8388608) :
  Calls Tryz.prog 126 #[v] w fun e w' => ∃ v', e = .returned v' ∧ OwnE w' w.heap.size 156 2 v' n xs ∧ Below w.heap.size w w' := by
 obtain ⟨a, q, hv, hq⟩ := h.len
 obtain ⟨i0, hi0, hz0, hz1, hz2⟩ := info_parts Tryz.info156
 have HR : Hid _ := room_row (n := n) (bytes := 16) hn (by decide)
 have RR : Hid (∀ u, Below w.heap.size w u → Row u v n xs) := fun u hu => h.below hu
 have HL : Hid (xs.length = n * 2) := hl
 have H1 : Hid _ := h1
 cases a with
 | none =>
  have hn0 : n = 0 := by
   obtain ⟨a, b, o, c, h3, h4, h5, h6, h7, h8⟩ := h
   rw [hv] at h3
   injection h3 with e1 e2 e3
   have := h8 e1.symm
   omega
  subst hn0
  have hx : xs = [] := List.length_eq_zero_iff.1 (by omega)
  subst hx hv
  clear h hl h1 RR H1 HL
  have hnil : ∀ W, (binOp .eql 41 (.slice none 0 q) (.slice none 0 0)).run Tryz.prog W = .ok (.bool true) W := fun W => Lib.run_eql_slice_nil_nil W _ _ Tryz.underlying41
  go_enter Tryz.func126, Tryz.ntmps126
  go_wp2
  go_ret
  exact ⟨_, rfl, OwnE.nil _ _ _ _, Below.refl _ _⟩
 | some p =>
  subst hv
  clear h hl h1
  have hnil : ∀ W, (binOp .eql 41 (.slice (some p) n q) (.slice none 0 0)).run Tryz.prog W = .ok (.bool false) W := fun W => Lib.run_eql_slice_some_nil W _ _ _ Tryz.underlying41
  go_enter Tryz.func126, Tryz.ntmps126
  go_wp2_with (at_builtin; refine list_appE (w.alloc (.cells #[] 156)) rfl _ _ 41 rfl w.heap.size 156 i0 _ 2 16 Tryz.underlying41 hi0 hz0 hz1 hz2 rfl (by decide) (.slice (some ⟨w.heap.size, 0, none⟩) 0 0) 0 [] rfl (OwnE.zero _ _ _ _ _) (.slice (some p) n q) n xs rfl (RR.out _ (al1 _ _)) HL.out H1.out HR.out.1 HR.out.2 (by simp) ?_)
  rintro v' w2 ⟨o1, o2, o3, o4⟩
  have B2 : Below w.heap.size w w2 := Below.trans (al1 _ _) o3
  clear o2 o3 o4
  go_wp2
  go_ret
  exact ⟨_, rfl, by simpa using o1, B2⟩

theorem clone106_any (v : Value) (n : Nat) (xs : List Value) (w : World) (h : Row w v n xs) (hl : xs.length = n * 1) (h1 : ∀ y ∈ xs, y.oneCell' = true) (hn : n ≤ 8388608) :
  Calls Tryz.prog 67 #[v] w fun e w' => ∃ v', e = .returned v' ∧ OwnE w' w.heap.size 3 1 v' n xs ∧ Below w.heap.size w w' := by
 obtain ⟨a, q, hv, hq⟩ := h.len
 obtain ⟨i0, hi0, hz0, hz1, hz2⟩ := info_parts Tryz.info3
 have HR : Hid _ := room_row (n := n) (bytes := 8) hn (by decide)
 have RR : Hid (∀ u, Below w.heap.size w u → Row u v n xs) := fun u hu => h.below hu
 have HL : Hid (xs.length = n * 1) := hl
 have H1 : Hid _ := h1
 cases a with
 | none =>
  have hn0 : n = 0 := by
   obtain ⟨a, b, o, c, h3, h4, h5, h6, h7, h8⟩ := h
   rw [hv] at h3
   injection h3 with e1 e2 e3
   have := h8 e1.symm
   omega
  subst hn0
  have hx : xs = [] := List.length_eq_zero_iff.1 (by omega)
  subst hx hv
  clear h hl h1 RR H1 HL
  have hnil : ∀ W, (binOp .eql 26 (.slice none 0 q) (.slice none 0 0)).run Tryz.prog W = .ok (.bool true) W := fun W => Lib.run_eql_slice_nil_nil W _ _ Tryz.underlying26
  go_enter Tryz.func67, Tryz.ntmps67
  go_wp2
  go_ret
  exact ⟨_, rfl, OwnE.nil _ _ _ _, Below.refl _ _⟩
 | some p =>
  subst hv
  clear h hl h1
  have hnil : ∀ W, (binOp .eql 26 (.slice (some p) n q) (.slice none 0 0)).run Tryz.prog W = .ok (.bool false) W := fun W => Lib.run_eql_slice_some_nil W _ _ _ Tryz.underlying26
  go_enter Tryz.func67, Tryz.ntmps67
  go_wp2_with (at_builtin; refine list_appE (w.alloc (.cells #[] 3)) rfl _ _ 26 rfl w.heap.size 3 i0 _ 1 8 Tryz.underlying26 hi0 hz0 hz1 hz2 rfl (by decide) (.slice (some ⟨w.heap.size, 0, none⟩) 0 0) 0 [] rfl (OwnE.zero _ _ _ _ _) (.slice (some p) n q) n xs rfl (RR.out _ (al1 _ _)) HL.out H1.out HR.out.1 HR.out.2 (by simp) ?_)
  rintro v' w2 ⟨o1, o2, o3, o4⟩
  have B2 : Below w.heap.size w w2 := Below.trans (al1 _ _) o3
  clear o2 o3 o4
  go_wp2
  go_ret
  exact ⟨_, rfl, by simpa using o1, B2⟩

theorem clone108_any (v : Value) (n : Nat) (xs : List Value) (w : World) (h : Row w v n xs) (hl : xs.length = n * 3) (h1 : ∀ y ∈ xs, y.oneCell' = true) (hn : n ≤ 8388608) :
  Calls Tryz.prog 128 #[v] w fun e w' => ∃ v', e = .returned v' ∧ OwnE w' w.heap.size 109 3 v' n xs ∧ Below w.heap.size w w' := by
 obtain ⟨a, q, hv, hq⟩ := h.len
 obtain ⟨i0, hi0, hz0, hz1, hz2⟩ := info_parts Tryz.info109
 have HR : Hid _ := room_row (n := n) (bytes := 24) hn (by decide)
 have RR : Hid (∀ u, Below w.heap.size w u → Row u v n xs) := fun u hu => h.below hu
 have HL : Hid (xs.length = n * 3) := hl
 have H1 : Hid _ := h1
 cases a with
 | none =>
  have hn0 : n = 0 := by
   obtain ⟨a, b, o, c, h3, h4, h5, h6, h7, h8⟩ := h
   rw [hv] at h3
   injection h3 with e1 e2 e3
   have := h8 e1.symm
   omega
  subst hn0
  have hx : xs = [] := List.length_eq_zero_iff.1 (by omega)
  subst hx hv
  clear h hl h1 RR H1 HL
  have hnil : ∀ W, (binOp .eql 43 (.slice none 0 q) (.slice none 0 0)).run Tryz.prog W = .ok (.bool true) W := fun W => Lib.run_eql_slice_nil_nil W _ _ Tryz.underlying43
  go_enter Tryz.func128, Tryz.ntmps128
  go_wp2
  go_ret
  exact ⟨_, rfl, OwnE.nil _ _ _ _, Below.refl _ _⟩
 | some p =>
  subst hv
  clear h hl h1
  have hnil : ∀ W, (binOp .eql 43 (.slice (some p) n q) (.slice none 0 0)).run Tryz.prog W = .ok (.bool false) W := fun W => Lib.run_eql_slice_some_nil W _ _ _ Tryz.underlying43
  go_enter Tryz.func128, Tryz.ntmps128
  go_wp2_with (at_builtin; refine list_appE (w.alloc (.cells #[] 109)) rfl _ _ 43 rfl w.heap.size 109 i0 _ 3 24 Tryz.underlying43 hi0 hz0 hz1 hz2 rfl (by decide) (.slice (some ⟨w.heap.size, 0, none⟩) 0 0) 0 [] rfl (OwnE.zero _ _ _ _ _) (.slice (some p) n q) n xs rfl (RR.out _ (al1 _ _)) HL.out H1.out HR.out.1 HR.out.2 (by simp) ?_)
  rintro v' w2 ⟨o1, o2, o3, o4⟩
  have B2 : Below w.heap.size w w2 := Below.trans (al1 _ _) o3
  clear o2 o3 o4
  go_wp2
  go_ret
  exact ⟨_, rfl, by simpa using o1, B2⟩

theorem clone146_any (v : Value) (n : Nat) (xs : List Value) (w : World) (h : Row w v n xs) (hl : xs.length = n * 5) (h1 : ∀ y ∈ xs, y.oneCell' = true) (hn : n ≤ 8388608) :
  Calls Tryz.prog 139 #[v] w fun e w' => ∃ v', e = .returned v' ∧ OwnE w' w.heap.size 45 5 v' n xs ∧ Below w.heap.size w w' := by
 obtain ⟨a, q, hv, hq⟩ := h.len
 obtain ⟨i0, hi0, hz0, hz1, hz2⟩ := info_parts Tryz.info45
 have HR : Hid _ := room_row (n := n) (bytes := 104) hn (by decide)
 have RR : Hid (∀ u, Below w.heap.size w u → Row u v n xs) := fun u hu => h.below hu
 have HL : Hid (xs.length = n * 5) := hl
 have H1 : Hid _ := h1
 cases a with
 | none =>
  have hn0 : n = 0 := by
   obtain ⟨a, b, o, c, h3, h4, h5, h6, h7, h8⟩ := h
   rw [hv] at h3
   injection h3 with e1 e2 e3
   have := h8 e1.symm
   omega
  subst hn0
  have hx : xs = [] := List.length_eq_zero_iff.1 (by omega)
  subst hx hv
  clear h hl h1 RR H1 HL
  have hnil : ∀ W, (binOp .eql 42 (.slice none 0 q) (.slice none 0 0)).run Tryz.prog W = .ok (.bool true) W := fun W => Lib.run_eql_slice_nil_nil W _ _ Tryz.underlying42
  go_enter Tryz.func139, Tryz.ntmps139
  go_wp2
  go_ret
  exact ⟨_, rfl, OwnE.nil _ _ _ _, Below.refl _ _⟩
 | some p =>
  subst hv
  clear h hl h1
  have hnil : ∀ W, (binOp .eql 42 (.slice (some p) n q) (.slice none 0 0)).run Tryz.prog W = .ok (.bool false) W := fun W => Lib.run_eql_slice_some_nil W _ _ _ Tryz.underlying42
  go_enter Tryz.func139, Tryz.ntmps139
  go_wp2_with (at_builtin; refine list_appE (w.alloc (.cells #[] 45)) rfl _ _ 42 rfl w.heap.size 45 i0 _ 5 104 Tryz.underlying42 hi0 hz0 hz1 hz2 rfl (by decide) (.slice (some ⟨w.heap.size, 0, none⟩) 0 0) 0 [] rfl (OwnE.zero _ _ _ _ _) (.slice (some p) n q) n xs rfl (RR.out _ (al1 _ _)) HL.out H1.out HR.out.1 HR.out.2 (by simp) ?_)
  rintro v' w2 ⟨o1, o2, o3, o4⟩
  have B2 : Below w.heap.size w w2 := Below.trans (al1 _ _) o3
  clear o2 o3 o4
  go_wp2
  go_ret
  exact ⟨_, rfl, by simpa using o1, B2⟩
end
section
open Go.RowKit

def keyV (a : Addr) (n : Int) : Value := .agg #[.pointer (some a), .int .i64 n]

theorem key_fields : ∃ f1 f2 : Field, (Tryz.prog.fieldsOf 174).toList = [f1, f2] ∧ f1.name = "first" ∧ f1.type = 162 ∧ f1.offset = 0 ∧ f2.name = "count" ∧ f2.type = 3 ∧ f2.offset = 1 := by
 have hF : (Tryz.prog.fieldsOf 174).toList.map (fun f => (f.name, f.type, f.offset)) = [("first", 162, 0), ("count", 3, 1)] := by kernel_rfl
 generalize (Tryz.prog.fieldsOf 174).toList = l at hF
 have hl : l.length = 2 := by have := congrArg List.length hF; simpa using this
 rcases l with _ | ⟨f1, _ | ⟨f2, _ | ⟨f3, l⟩⟩⟩ <;> simp at hl
 simp at hF
 exact ⟨f1, f2, rfl, hF.1.1, hF.1.2.1, hF.1.2.2, hF.2.1, hF.2.2.1, hF.2.2.2⟩

theorem keyEq (a b : Addr) (n m : Int) (w : World) (ha : Plain w a.block) (hb : Plain w b.block) :
  (Op.equalIn 10000 174 (keyV a n) (keyV b m)).run Tryz.prog w = .ok (a == b && n == m) w := by
 have u3 := Tryz.underlying3
 have hS : Tryz.prog.underlying 174 = some (.struct (Tryz.prog.fieldsOf 174)) := by kernel_rfl
 have hp : Tryz.prog.stoodInHeld 174 = false := by kernel_rfl
 have P1 : ∀ (a : Addr) (n : Int) w, (part 162 #[.pointer (some a), .int .i64 n] 0).run Tryz.prog w = .ok (.pointer (some a)) w := fun a n w => by kernel_rfl
 have P2 : ∀ (a : Addr) (n : Int) w, (part 3 #[.pointer (some a), .int .i64 n] 1).run Tryz.prog w = .ok (.int .i64 n) w := fun a n w => by kernel_rfl
 have hu : Tryz.prog.underlying 162 = some (.pointer 45) := by kernel_rfl
 obtain ⟨i0, hi0, _, hz1, _⟩ := info_parts Tryz.info45
 have E0 : ∀ d : Nat, (Op.equalIn (d + 1) 162 (.pointer (some a)) (.pointer (some b))).run Tryz.prog w = .ok (a == b) w := fun d => by
  have hs : (sizeOf 45).run Tryz.prog w = .ok 5 w := by simp [sizeOf, typeInfo, hi0, hz1, run_program]
  have h2 : (sameAddr a b).run Tryz.prog w = .ok (a == b) w := by
   by_cases e : a = b
   ·subst e
    simpa using run_sameAddr_same (P := Tryz.prog) (w := w) a
   ·obtain ⟨c1, t1, h1⟩ := ha
    obtain ⟨c2, t2, h2⟩ := hb
    have := run_sameAddr_other (P := Tryz.prog) w e h1 h2
    rw [this]
    simp [e]
  simp [Op.equalIn, run_underlying hu, hs, h2]
 have E1 : (Op.equalIn 9999 162 (.pointer (some a)) (.pointer (some b))).run Tryz.prog w = .ok (a == b) w := E0 9998
 have E2 : (Op.equalIn 9999 3 (.int .i64 n) (.int .i64 m)).run Tryz.prog w = .ok (n == m) w := run_equalIn_int w 9998 3 .i64 .i64 n m u3
 unfold keyV
 rw [show (10000 : Nat) = 9999 + 1 from rfl, run_equalIn_agg w 9999 174 _ _ hS hp]
 obtain ⟨f1, f2, hF, q1, q2, q3, q4, q5, q6⟩ := key_fields
 rw [hF]
 simp only [Op.eqFields, q1, q2, q3, q4, q5, q6, Sem.run_bind, Sem.run_ite, P1, P2, E1, E2, Result.andThen_ok]
 by_cases h1 : a = b <;> by_cases h2 : n = m <;> simp [h1, h2]

def KeysIn0 (w : World) (V : Nat → Prop) (es : List MapEntry) : Prop := ∀ e ∈ es, ∃ a n, e.key = keyV a n ∧ Plain w a.block ∧ V a.block

def MadeAt (w : World) (M : Nat) (V : Nat → Prop) : Prop := ∃ es clock, w.heap[M]? = some (.map es clock) ∧ KeysIn0 w V es.toList

theorem find_made {w : World} {V : Nat → Prop} (a : Addr) (n : Int) (ha : Plain w a.block) : ∀ (es : List MapEntry) (i : Nat), KeysIn0 w V es → ∃ r, (∀ w', w'.heap = w.heap → (Instr.findAsking 174 (keyV a n) es i).run Tryz.prog w' = .ok r w') ∧ ∀ j v, r = some (j, v) → V a.block ∧ i ≤ j ∧ ∃ e, es[j - i]? = some e ∧ e.key = keyV a n
 | [], i, _ => ⟨none, fun _ _ => rfl, fun _ _ h => by simp at h⟩
 | e :: es, i, h => by
  obtain ⟨b, m, he, hb, hv⟩ := h e (by simp)
  obtain ⟨r, hr, hq⟩ := find_made a n ha es (i + 1) (fun x hx => h x (by simp [hx]))
  have hE : ∀ w', w'.heap = w.heap → (Op.equal 174 (keyV a n) e.key).run Tryz.prog w' = .ok (a == b && n == m) w' := fun w' hw => by rw [he]; exact keyEq a b n m w' (by rw [Plain, hw]; exact ha) (by rw [Plain, hw]; exact hb)
  cases hc : (a == b && n == m)
  ·refine ⟨r, ?_, fun j v hj => ?_⟩
   ·intro w' hw
    simp [Instr.findAsking, hE w' hw, hc, hr w' hw]
   ·obtain ⟨q1, q2, e', q3, q4⟩ := hq j v hj
    refine ⟨q1, by omega, e', ?_, q4⟩
    rw [show j - i = (j - (i + 1)) + 1 by omega]
    simpa using q3
  ·simp only [Bool.and_eq_true, beq_iff_eq] at hc
   obtain ⟨rfl, rfl⟩ := hc
   refine ⟨some (i, e.val), ?_, fun j v hj => ?_⟩
   ·intro w' hw
    simp [Instr.findAsking, hE w' hw]
   ·simp at hj
    obtain ⟨rfl, rfl⟩ := hj
    exact ⟨hv, Nat.le_refl _, e, by simp, he⟩

theorem findKey_made {w : World} {V : Nat → Prop} (a : Addr) (n : Int) (ha : Plain w a.block) (es : List MapEntry) (h : KeysIn0 w V es) : ∃ r, (∀ w', w'.heap = w.heap → (Instr.findKey 174 (keyV a n) es).run Tryz.prog w' = .ok r w') ∧ ∀ j v, r = some (j, v) → V a.block ∧ ∃ e, es[j]? = some e ∧ e.key = keyV a n := by
 have hS : Tryz.prog.underlying 174 = some (.struct (Tryz.prog.fieldsOf 174)) := by kernel_rfl
 cases es with
 | nil => exact ⟨none, fun w' _ => by simp [Instr.findKey, run_underlying hS, Instr.findNow], fun _ _ h => by simp at h⟩
 | cons e es =>
  obtain ⟨r, hr, hq⟩ := find_made a n ha (e :: es) 0 h
  refine ⟨r, ?_, fun j v hj => ?_⟩
  ·intro w' hw
   simp [Instr.findKey, run_underlying hS, Instr.findNow, Instr.sameNow, hr w' hw]
  ·obtain ⟨q1, _, e', q3, q4⟩ := hq j v hj
   exact ⟨q1, e', by simpa using q3, q4⟩

theorem check_key (b : Bool) (a : Addr) (n : Int) (w : World) : (Instr.checkKey b 10000 174 (keyV a n)).run Tryz.prog w = .ok () w := by kernel_rfl

theorem look_made {w : World} {M : Nat} {V : Nat → Prop} (hM : MadeAt w M V) (a : Addr) (n : Int) (ha : Plain w a.block) : ∃ v met, (∀ w', w'.heap = w.heap → (Instr.lookup 161 (.map (some M)) (keyV a n) true).run Tryz.prog w' = .ok (.tuple #[v, .bool met]) w') ∧ (met = true → V a.block) := by
 obtain ⟨es, clock, hb, hk⟩ := hM
 have hu : Tryz.prog.underlying 161 = some (.map 174 42) := by kernel_rfl
 have hz : ∀ w', (zeroValue 42).run Tryz.prog w' = .ok (.slice none 0 0) w' := fun w' => by kernel_rfl
 obtain ⟨r, hr, hq⟩ := findKey_made a n ha es.toList hk
 cases r with
 | none => exact ⟨.slice none 0 0, false, fun w' hw => by simp [Instr.lookup, run_underlying hu, MapKept.run_getObj_map (w := w') (by rw [hw]; exact hb), check_key, hr w' hw, hz], fun h => by simp at h⟩
 | some r => exact ⟨r.2, true, fun w' hw => by simp [Instr.lookup, run_underlying hu, MapKept.run_getObj_map (w := w') (by rw [hw]; exact hb), check_key, hr w' hw], fun _ => (hq r.1 r.2 rfl).1⟩
end
section
open Go.RowKit

def setM (w : World) (M : Nat) (o : Obj) : World := { w with heap := w.heap.setIfInBounds M o }

theorem chg_setM (w : World) (M : Nat) (o : Obj) : Chg (fun g => g = M) w (setM w M o) :=
 ⟨rfl, rfl, rfl, by simp [setM], fun k _ hk => by simp [setM, Array.getElem?_setIfInBounds]; intro e; exact absurd e.symm hk⟩

theorem Plain.chg {P : Nat → Prop} {w w' : World} {b : Nat} (h : Plain w b) (hc : Chg P w w') (hP : ¬ P b) : Plain w' b := by
 obtain ⟨c, t, h⟩ := h
 exact ⟨c, t, (hc.block b (Array.getElem?_eq_some_iff.1 h).1 hP).trans h⟩

theorem sameKey (a : Addr) (n : Int) : Instr.sameBits 10000 (keyV a n) (keyV a n) = true := by
 show Instr.sameBits (9999 + 1) _ _ = true
 unfold keyV
 rw [Instr.sameBits]
 simp [Instr.sameBits]

theorem put_made {w : World} {M : Nat} {V : Nat → Prop} (hM : MadeAt w M V) (a : Addr) (n : Int) (x : Value) (ha : Plain w a.block) : ∃ es' clock', (Instr.mapUpdate 161 (.map (some M)) (keyV a n) x).run Tryz.prog w = .ok () (setM w M (.map es' clock')) ∧ MadeAt (setM w M (.map es' clock')) M (fun g => V g ∨ g = a.block) := by
 obtain ⟨es, clock, hb, hk⟩ := hM
 have hu : Tryz.prog.underlying 161 = some (.map 174 42) := by kernel_rfl
 obtain ⟨r, hr, hq⟩ := findKey_made a n ha es.toList hk
 have hMlt : M < w.heap.size := (Array.getElem?_eq_some_iff.1 hb).1
 have hset : ∀ o : Obj, (setObj M o).run Tryz.prog w = .ok () (setM w M o) := fun o => by simp [setObj, Sem.run, hb, setM]
 have hne : ∀ b, Plain w b → ¬ b = M := fun b ⟨c, t, h⟩ e => by subst e; rw [hb] at h; simp at h
 have hM2 : ∀ o : Obj, (setM w M o).heap[M]? = some o := fun o => by simp [setM, hMlt]
 cases r with
 | none =>
  refine ⟨es.push { key := keyV a n, val := x, born := clock }, clock + 1, ?_, _, _, hM2 _, fun e he => ?_⟩
  ·simp [Instr.mapUpdate, run_underlying hu, MapKept.run_getObj_map hb, check_key, hr w rfl, hset]
  ·simp only [Array.toList_push, List.mem_append, List.mem_singleton] at he
   rcases he with he | rfl
   ·obtain ⟨b, m, h1, h2, h3⟩ := hk e he
    exact ⟨b, m, h1, h2.chg (chg_setM _ _ _) (hne _ h2), .inl h3⟩
   ·exact ⟨a, n, rfl, ha.chg (chg_setM _ _ _) (hne _ ha), .inr rfl⟩
 | some r =>
  obtain ⟨j, v⟩ := r
  obtain ⟨hV, e0, h0, h1⟩ := hq j v rfl
  have hj : es[j]? = some e0 := by simpa using h0
  refine ⟨es.modify j fun e => { e with key := keyV a n, val := x }, clock, ?_, _, _, hM2 _, fun e he => ?_⟩
  ·simp [Instr.mapUpdate, run_underlying hu, MapKept.run_getObj_map hb, check_key, hr w rfl, hset, hj, h1, Instr.keyThatStays, sameKey]
  ·obtain ⟨i, hi, rfl⟩ := List.getElem_of_mem he
   simp only [Array.getElem_toList, Array.getElem_modify]
   split
   ·exact ⟨a, n, rfl, ha.chg (chg_setM _ _ _) (hne _ ha), .inr rfl⟩
   ·have hi' : i < es.size := by simpa using hi
    obtain ⟨b, m, k1, k2, k3⟩ := hk es[i] (by simp)
    exact ⟨b, m, k1, k2.chg (chg_setM _ _ _) (hne _ k2), .inl k3⟩

theorem MadeAt.chg {P : Nat → Prop} {w w' : World} {M : Nat} {V : Nat → Prop} (h : MadeAt w M V) (hc : Chg P w w') (hM : ¬ P M) (hV : ∀ g, P g → ∀ c t, w.heap[g]? = some (.cells c t (0, 0)) → ∃ c' t', w'.heap[g]? = some (.cells c' t' (0, 0))) : MadeAt w' M V := by
 obtain ⟨es, clock, hb, hk⟩ := h
 refine ⟨es, clock, (hc.block M (Array.getElem?_eq_some_iff.1 hb).1 hM).trans hb, fun e he => ?_⟩
 obtain ⟨a, n, h1, ⟨c, t, h2⟩, h3⟩ := hk e he
 refine ⟨a, n, h1, ?_, h3⟩
 by_cases hp : P a.block
 ·exact hV _ hp c t h2
 ·exact ⟨c, t, (hc.block _ (Array.getElem?_eq_some_iff.1 h2).1 hp).trans h2⟩
theorem MadeAt.step {w w' : World} {M : Nat} {V : Nat → Prop} (h : MadeAt w M V) (hb : Below w.heap.size w w') : MadeAt w' M V := by
 obtain ⟨es, clock, hb', hk⟩ := h
 refine ⟨es, clock, (hb.block M (Array.getElem?_eq_some_iff.1 hb').1).trans hb', fun e he => ?_⟩
 obtain ⟨a, n, h1, ⟨c, t, h2⟩, h3⟩ := hk e he
 exact ⟨a, n, h1, ⟨c, t, (hb.block _ (Array.getElem?_eq_some_iff.1 h2).1).trans h2⟩, h3⟩
end
section
open Go.RowKit

theorem OwnE.frame {w w' : World} {base e size n : Nat} {v : Value} {xs : List Value} (h : OwnE w base e size v n xs) (hf : ∀ g, wrB v g → g < w.heap.size → w'.heap[g]? = w.heap[g]?) : OwnE w' base e size v n xs := by
 rcases h with h | h
 ·obtain ⟨hl, h | ⟨g, cap, cur, rfl, hg, hh, hn, hcap, hsz, htake⟩⟩ := h
  ·exact .inl ⟨hl, .inl h⟩
  ·rcases Nat.eq_zero_or_pos cap with h1 | h1
   ·subst h1
    have : n = 0 := by omega
    subst this
    exact .inr ⟨rfl, List.length_eq_zero_iff.1 (by omega), g, rfl⟩
   ·exact .inl ⟨hl, .inr ⟨g, cap, cur, rfl, hg, (hf g ⟨_, _, rfl, h1⟩ (Array.getElem?_eq_some_iff.1 hh).1).trans hh, hn, hcap, hsz, htake⟩⟩
 ·exact .inr h

def TreeD : Nat → World → (Nat → Prop) → TV → Tr → Prop
 | 0, _, _, _, _ => False
 | n + 1, w, F, x, T => x.lf = T.leaf ∧ OwnE w 0 156 2 x.p T.pairs.length (flatP T.pairs) ∧ OwnE w 0 3 1 x.c T.cuts.length (flatI T.cuts) ∧ OwnE w 0 109 3 x.b T.buf.length (flatM T.buf) ∧
   (∀ g, wrB x.p g ∨ wrB x.c g ∨ wrB x.b g ∨ wrB x.k g → F g) ∧
   ∃ (xs : List TV) (K : Nat → Nat → Prop), xs.length = T.kids.length ∧ OwnE w 0 45 5 x.k xs.length (flatT xs) ∧
    (∀ i, i < xs.length → TreeD n w (K i) (tvAt xs i) (T.kids.getD i noTr)) ∧
    (∀ i g, i < xs.length → K i g → F g ∧ ¬ (wrB x.p g ∨ wrB x.c g ∨ wrB x.b g ∨ wrB x.k g)) ∧
    (∀ i j g, i < j → j < xs.length → K i g → ¬ K j g)

theorem TreeD.treeF : ∀ {n : Nat} {w : World} {F : Nat → Prop} {x : TV} {T : Tr}, TreeD n w F x T → TreeF n w F x T
 | 0, _, _, _, _, h => h.elim
 | n + 1, w, F, x, T, ⟨h1, h2, h3, h4, h5, xs, K, k1, k2, k3, k4, k5⟩ => by
  refine TreeF.mk h1 (h2.rowF.mono (fun g hg => h5 g (.inl hg))) (h3.rowF.mono (fun g hg => h5 g (.inr (.inl hg)))) (h4.rowF.mono (fun g hg => h5 g (.inr (.inr (.inl hg))))) ⟨xs, k1, ?_, fun i hi => (k3 i hi).treeF.mono (fun g hg => (k4 i g hi hg).1)⟩
  have := k2.rowF.mono (G := F) (fun g hg => h5 g (.inr (.inr (.inr hg))))
  exact this
theorem TreeD.mono : ∀ {n : Nat} {w : World} {F G : Nat → Prop} {x : TV} {T : Tr}, TreeD n w F x T → (∀ g, F g → G g) → TreeD n w G x T
 | 0, _, _, _, _, _, h, _ => h.elim
 | _ + 1, _, _, _, _, _, ⟨h1, h2, h3, h4, h5, xs, K, k1, k2, k3, k4, k5⟩, hk => ⟨h1, h2, h3, h4, fun g hg => hk g (h5 g hg), xs, K, k1, k2, k3, fun i g hi hg => ⟨hk g (k4 i g hi hg).1, (k4 i g hi hg).2⟩, k5⟩
theorem TreeD.frame : ∀ {n : Nat} {w w' : World} {F : Nat → Prop} {x : TV} {T : Tr}, TreeD n w F x T → (∀ g, F g → g < w.heap.size → w'.heap[g]? = w.heap[g]?) → TreeD n w' F x T
 | 0, _, _, _, _, _, h, _ => h.elim
 | _ + 1, _, _, _, _, _, ⟨h1, h2, h3, h4, h5, xs, K, k1, k2, k3, k4, k5⟩, hf => ⟨h1, h2.frame (fun g hg => hf g (h5 g (.inl hg))), h3.frame (fun g hg => hf g (h5 g (.inr (.inl hg)))), h4.frame (fun g hg => hf g (h5 g (.inr (.inr (.inl hg))))), h5, xs, K, k1, k2.frame (fun g hg => hf g (h5 g (.inr (.inr (.inr hg))))), fun i hi => (k3 i hi).frame (fun g hg => hf g (k4 i g hi hg).1), k4, k5⟩
theorem TreeD.lt : ∀ {n : Nat} {w : World} {F : Nat → Prop} {x : TV} {T : Tr}, TreeD n w F x T → TreeD n w (fun g => F g ∧ g < w.heap.size) x T
 | 0, _, _, _, _, h => h.elim
 | _ + 1, _, _, _, _, ⟨h1, h2, h3, h4, h5, xs, K, k1, k2, k3, k4, k5⟩ => ⟨h1, h2, h3, h4, fun g hg => ⟨h5 g hg, by
   rcases hg with h | h | h | h
   ·exact (h2.lt g h).2
   ·exact (h3.lt g h).2
   ·exact (h4.lt g h).2
   ·exact (k2.lt g h).2⟩, xs, fun i g => K i g ∧ g < _, k1, k2, fun i hi => (k3 i hi).lt, fun i g hi hg => ⟨⟨(k4 i g hi hg.1).1, hg.2⟩, (k4 i g hi hg.1).2⟩, fun i j g hij hj hg hg' => k5 i j g hij hj hg.1 hg'.1⟩
theorem TreeD.chg {n : Nat} {w w' : World} {F P : Nat → Prop} {x : TV} {T : Tr} (h : TreeD n w F x T) (hc : Chg P w w') (hd : ∀ g, F g → ¬ P g) : TreeD n w' F x T := h.frame fun g hg hl => hc.block g hl (hd g hg)
theorem TreeD.below {n : Nat} {w w' : World} {F : Nat → Prop} {x : TV} {T : Tr} (h : TreeD n w F x T) (hb : Below w.heap.size w w') : TreeD n w' F x T := h.frame fun g _ hl => hb.block g hl
end
end Go.Proofs.YtmdajbbpigbdcaaGreat
