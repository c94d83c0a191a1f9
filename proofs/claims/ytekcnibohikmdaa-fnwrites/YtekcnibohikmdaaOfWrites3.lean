/-
  Contracts of the functions on lists of supers that the laws use: a super is two numbers, as a pair is.
  The laws' own functions that write marks into a list of supers, and look for them.
  Contracts of the laws' functions on lists of strings: their size, their copy, whether two are alike.
  The text that the laws mark a string with.
  Lists of strings: copied, held against each other, marked.
  Lists of strings: the marks looked for.
  Lists of writes (a place, a text, a super): their cells, and the laws' functions that copy and compare one.
  Lists of writes: their size, copied, held against each other.
  Lists of writes: copied, held against each other, marked.
  Lists of writes: marked.
  A disk: its pages (strings) and its supers, as two rows behind one struct; the laws' functions on it.
  What writes make of a disk, as a plain function; the program's and the model's copies of a disk's rows.
  The program's writeInto: one write into the rows of a disk.
  Worlds in which two new blocks are as they were laid.
-/
import Derived.Test.YtekcnibohikmdaaOfWrites1
import Derived.Test.YtekcnibohikmdaaRows
import Derived.Deep.QuietTactic
import Derived.BigQuiet
import Derived.Deep.RegionWith
import Derived.Test.YtekcnibohikmdaaOfWrites2
import Derived.Laws.BytesArg
import Derived.Laws.Concat
import Derived.Lib.SlicesS
import Derived.Lib.BufferMore
namespace Go.Proofs.Ytekcnibohikmdaa
set_option maxRecDepth 100000
set_option maxHeartbeats 8000000
section
open Go.RowKit

theorem Try.info33 : (Try.prog.info? 33).map (fun i => (i.zero, i.size, i.bytes)) = some (some (.agg #[.int .i64 0, .int .i64 0]), 2, 16) := by kernel_rfl
end
section
open Go.RowKit
end
section
open Go.RowKit

def flatS (l : List ByteArray) : List Value := l.map Value.string
def sOf (l : List ByteArray) (i : Nat) : ByteArray := l.getD i ByteArray.empty
theorem flatS_length (l : List ByteArray) : (flatS l).length = l.length := by simp [flatS]
theorem flatS_at (l : List ByteArray) (i : Nat) (h : i < l.length) : (flatS l)[i]? = some (.string (sOf l i)) := by simp [flatS, sOf, List.getD, h]
theorem flatS_one (l : List ByteArray) : ∀ y ∈ flatS l, y.oneCell' = true := by
 intro y hy
 simp only [flatS, List.mem_map] at hy
 obtain ⟨s, _, rfl⟩ := hy
 rfl
def szS (left : Int) : List ByteArray → Int
 | [] => left
 | s :: r => if left - s.size < 0 then -1 else szS (left - s.size) r
def szSall (l : List ByteArray) (left : Int) : Int := if left - l.length < 0 then -1 else szS (left - l.length) l
end
section
open Go.RowKit

def dgS (f : Nat) (k : Nat) (out : ByteArray) : ByteArray := match f with
 | 0 => out
 | f + 1 => if k = 0 then out else dgS f (k / 10) (strOfNums [48 + (k : Int) % 10] ++ out)

def markT (k : Int) : ByteArray := ⟨#[109]⟩ ++ dgS k.toNat k.toNat ⟨#[]⟩
end
section
open Go.RowKit

theorem Try.info9 : (Try.prog.info? 9).map (fun i => (i.zero, i.size, i.bytes)) = some (some (.string ⟨#[]⟩), 1, 16) := by kernel_rfl

def filledS (l : List ByteArray) (k : Nat) : List Value := flatS (l.take k) ++ List.replicate (l.length - k) (.string ⟨#[]⟩)
def marksS (k : Int) (n : Nat) : List ByteArray := (List.range n).map fun (i : Nat) => markT (k + i)
def midS (k : Int) (l : List ByteArray) (i : Nat) : List ByteArray := marksS k i ++ l.drop i
theorem flatS_set (l : List ByteArray) (s : ByteArray) (i : Nat) : (flatS l).set i (.string s) = flatS (l.set i s) := by simp [flatS, List.map_set]
end
section
open Go.RowKit
end
section
open Go.RowKit

abbrev Wr := Int × ByteArray × Int × Int
def wA (l : List Wr) (i : Nat) : Int := (l.getD i (0, ⟨#[]⟩, 0, 0)).1
def wT (l : List Wr) (i : Nat) : ByteArray := (l.getD i (0, ⟨#[]⟩, 0, 0)).2.1
def wV (l : List Wr) (i : Nat) : Int := (l.getD i (0, ⟨#[]⟩, 0, 0)).2.2.1
def wR (l : List Wr) (i : Nat) : Int := (l.getD i (0, ⟨#[]⟩, 0, 0)).2.2.2
def flatW (l : List Wr) : List Value := l.flatMap fun p => [.int .i64 p.1, .string p.2.1, .int .i64 p.2.2.1, .int .i64 p.2.2.2]
theorem flatW_cons (p : Wr) (l : List Wr) : flatW (p :: l) = .int .i64 p.1 :: .string p.2.1 :: .int .i64 p.2.2.1 :: .int .i64 p.2.2.2 :: flatW l := rfl
theorem flatW_append (l m : List Wr) : flatW (l ++ m) = flatW l ++ flatW m := by simp [flatW, List.flatMap_append]
theorem flatW_at (l : List Wr) : ∀ i, i < l.length → (flatW l)[i * 4]? = some (.int .i64 (wA l i)) ∧ (flatW l)[i * 4 + 1]? = some (.string (wT l i)) ∧ (flatW l)[i * 4 + 2]? = some (.int .i64 (wV l i)) ∧ (flatW l)[i * 4 + 3]? = some (.int .i64 (wR l i)) := by
 induction l with
 | nil => intro i h; simp at h
 | cons a l ih =>
  intro i h
  cases i with
  | zero => simp [flatW, wA, wT, wV, wR]
  | succ i =>
   have := ih i (by simpa using h)
   rw [flatW_cons, show (i + 1) * 4 = i * 4 + 1 + 1 + 1 + 1 by omega, show i * 4 + 1 + 1 + 1 + 1 + 1 = (i * 4 + 1) + 1 + 1 + 1 + 1 by omega, show i * 4 + 1 + 1 + 1 + 1 + 2 = (i * 4 + 2) + 1 + 1 + 1 + 1 by omega, show i * 4 + 1 + 1 + 1 + 1 + 3 = (i * 4 + 3) + 1 + 1 + 1 + 1 by omega]
   simpa [wA, wT, wV, wR] using this
theorem flatW_one (l : List Wr) : ∀ y ∈ flatW l, y.oneCell' = true := by
 induction l with
 | nil => intro y hy; simp [flatW] at hy
 | cons p l ih =>
  intro y hy
  rw [flatW_cons] at hy
  simp only [List.mem_cons] at hy
  rcases hy with rfl | rfl | rfl | rfl | hy
  ·rfl
  ·rfl
  ·rfl
  ·rfl
  ·exact ih y hy
theorem Row.writs {w : World} {v : Value} {l : List Wr} (h : Row w v l.length (flatW l)) :
  ∃ (a : Option Addr) (b off cap : Nat), v = .slice a l.length cap ∧ l.length ≤ cap ∧ cap ≤ maxLen ∧ (0 < l.length → a = some ⟨b, off, none⟩) ∧
   (∀ i, i < l.length → w.cell? ⟨b, off + i * 4, none⟩ = some (.int .i64 (wA l i)) ∧ w.cell? ⟨b, off + i * 4 + 1, none⟩ = some (.string (wT l i)) ∧ w.cell? ⟨b, off + i * 4 + 2, none⟩ = some (.int .i64 (wV l i)) ∧ w.cell? ⟨b, off + i * 4 + 3, none⟩ = some (.int .i64 (wR l i))) := by
 obtain ⟨a, b, off, cap, h1, h2, h3, h4, h5, _⟩ := h
 exact ⟨a, b, off, cap, h1, h2, h3, h4, fun i hi => ⟨h5 _ _ (flatW_at l i hi).1, h5 _ _ (flatW_at l i hi).2.1, h5 _ _ (flatW_at l i hi).2.2.1, h5 _ _ (flatW_at l i hi).2.2.2⟩⟩
def vW (a : Int) (t : ByteArray) (b c : Int) : Value := .agg #[.int .i64 a, .string t, .int .i64 b, .int .i64 c]

theorem bel_al {w u : World} (h : Below w.heap.size w u) (o : Obj) : Below w.heap.size w (u.alloc o) := h.alloc h.size o
def eqWrB (a : Int) (t : ByteArray) (b c : Int) (a' : Int) (t' : ByteArray) (b' c' : Int) : Bool := decide (a = a' ∧ t = t' ∧ b = b' ∧ c = c')
end
section
open Go.RowKit

def texts (l : List Wr) : List ByteArray := l.map fun p => p.2.1
end
section
open Go.RowKit

theorem Try.info35 : (Try.prog.info? 35).map (fun i => (i.zero, i.size, i.bytes)) = some (some (.agg #[.int .i64 0, .string ⟨#[]⟩, .int .i64 0, .int .i64 0]), 4, 40) := by kernel_rfl

def zeroW : Wr := (0, ⟨#[]⟩, 0, 0)
def wAll (l : List Wr) (i : Nat) : Wr := (wA l i, wT l i, wV l i, wR l i)
theorem wAll_eq (l : List Wr) (i : Nat) (h : i < l.length) : wAll l i = l[i] := by simp [wAll, wA, wT, wV, wR, List.getD, h]
def fillW (l : List Wr) (k : Nat) : List Wr := l.take k ++ List.replicate (l.length - k) zeroW
end
section
open Go.RowKit

def marksW (k : Int) (n : Nat) : List Wr := (List.range n).map fun (i : Nat) => (k + 4 * i, markT (k + 4 * i + 1), k + 4 * i + 1 + 1, k + 4 * i + 1 + 1 + 1)
def midW (k : Int) (l : List Wr) (i : Nat) : List Wr := marksW k i ++ l.drop i
end
section
open Go.RowKit

abbrev PgL := List ByteArray
abbrev SL := List (Int × Int)
def DiskRow (w : World) (v : Value) (P : PgL) (S : SL) : Prop := ∃ vp vs, v = .agg #[vp, vs] ∧ Row w vp P.length (flatS P) ∧ Row w vs S.length (flatP S)
def DiskOwn (w : World) (base : Nat) (v : Value) (P : PgL) (S : SL) : Prop := ∃ vp vs, v = .agg #[vp, vs] ∧ w.ownsRow base 9 1 vp P.length (flatS P) ∧ w.ownsRow base 33 2 vs S.length (flatP S)
theorem DiskRow.below {w w' : World} {v : Value} {P : PgL} {S : SL} (h : DiskRow w v P S) (hb : Below w.heap.size w w') : DiskRow w' v P S := by
 obtain ⟨vp, vs, rfl, h1, h2⟩ := h
 exact ⟨vp, vs, rfl, h1.below hb, h2.below hb⟩
theorem DiskOwn.below {w w' : World} {base : Nat} {v : Value} {P : PgL} {S : SL} (h : DiskOwn w base v P S) (hb : Below w.heap.size w w') : DiskOwn w' base v P S := by
 obtain ⟨vp, vs, rfl, h1, h2⟩ := h
 exact ⟨vp, vs, rfl, owns_below h1 hb, owns_below h2 hb⟩
theorem DiskOwn.mono {w : World} {base base' : Nat} {v : Value} {P : PgL} {S : SL} (h : DiskOwn w base v P S) (hb : base' ≤ base) : DiskOwn w base' v P S := by
 obtain ⟨vp, vs, rfl, h1, h2⟩ := h
 exact ⟨vp, vs, rfl, owns_mono h1 hb, owns_mono h2 hb⟩
theorem DiskOwn.row {w : World} {base : Nat} {v : Value} {P : PgL} {S : SL} (h : DiskOwn w base v P S) : DiskRow w v P S := by
 obtain ⟨vp, vs, rfl, h1, h2⟩ := h
 exact ⟨vp, vs, rfl, Row.of_owns h1, Row.of_owns h2⟩
def dBlk (v : Value) (g : Nat) : Prop := ∃ vp vs, v = .agg #[vp, vs] ∧ (vp.ownBlock = some g ∨ vs.ownBlock = some g)
theorem DiskOwn.lt {w : World} {base : Nat} {v : Value} {P : PgL} {S : SL} (h : DiskOwn w base v P S) {g : Nat} (hg : dBlk v g) : base ≤ g ∧ g < w.heap.size := by
 obtain ⟨vp, vs, rfl, h1, h2⟩ := h
 obtain ⟨vp', vs', e, hg⟩ := hg
 simp at e
 obtain ⟨rfl, rfl⟩ := e
 rcases hg with hg | hg
 ·exact h1.lt g hg
 ·exact h2.lt g hg
theorem DiskOwn.chg {F : Nat → Prop} {w w' : World} {base : Nat} {v : Value} {P : PgL} {S : SL} (h : DiskOwn w base v P S) (hc : Chg F w w') (hF : ∀ g, dBlk v g → ¬ F g) : DiskOwn w' base v P S := by
 obtain ⟨vp, vs, rfl, h1, h2⟩ := h
 exact ⟨vp, vs, rfl, owns_chg h1 hc (fun g hg => hF g ⟨vp, vs, rfl, Or.inl hg⟩), owns_chg h2 hc (fun g hg => hF g ⟨vp, vs, rfl, Or.inr hg⟩)⟩
theorem blk_ne {w : World} {b1 b2 n m : Nat} {vp vs : Value} {xs ys : List Value} (h1 : w.ownsRow b1 9 1 vp n xs) (h2 : w.ownsRow b2 33 2 vs m ys) {g : Nat} (hp : vp.ownBlock = some g) : ¬ vs.ownBlock = some g := by
 intro hs
 obtain ⟨_, c1, e1⟩ := owns_lt h1 hp
 obtain ⟨_, c2, e2⟩ := owns_lt h2 hs
 rw [e1] at e2
 simp at e2

def szD (P : PgL) (S : SL) (left : Int) : Int := if szSall P left < 0 then -1 else if (S.length : Int) ≤ szSall P left then szSall P left - S.length else -1
theorem al_size (w : World) (A : Obj) : (w.alloc A).heap.size = w.heap.size + 1 := by simp
theorem al3d (w : World) (A B C : Obj) : (((w.alloc A).alloc B).alloc C).heap[w.heap.size]? = some A ∧ (((w.alloc A).alloc B).alloc C).heap[w.heap.size + 1]? = some B ∧ (((w.alloc A).alloc B).alloc C).heap[w.heap.size + 1 + 1]? = some C := by
 have s1 := al_size w A
 have s2 := al_size (w.alloc A) B
 have n1 := heap_alloc_new w A
 have n2 := heap_alloc_new (w.alloc A) B
 have n3 := heap_alloc_new ((w.alloc A).alloc B) C
 have k2 := fun (k : Nat) (h : k < (w.alloc A).heap.size) => (bel_al (w := w.alloc A) (Below.refl _ _) B).block k h
 have k3 := fun (k : Nat) (h : k < ((w.alloc A).alloc B).heap.size) => (bel_al (w := (w.alloc A).alloc B) (Below.refl _ _) C).block k h
 rw [s1] at n2
 rw [s2, s1] at n3
 refine ⟨?_, ?_, n3⟩
 ·rw [k3 _ (by omega), k2 _ (by omega), n1]
 ·rw [k3 _ (by omega), n2]
end
section
open Go.RowKit

def wrtP (P : PgL) (a : Int) (t : ByteArray) : PgL := if 0 ≤ a ∧ a < P.length then P.set a.toNat t else P
def wrtS (S : SL) (a : Int) (b c : Int) : SL := if 0 ≤ -1 - a ∧ -1 - a < min 2 (S.length : Int) then S.set (-1 - a).toNat (b, c) else S
def dkP : PgL → List Wr → PgL
 | P, [] => P
 | P, x :: r => dkP (wrtP P x.1 x.2.1) r
def dkS : SL → List Wr → SL
 | S, [] => S
 | S, x :: r => dkS (wrtS S x.1 x.2.2.1 x.2.2.2) r
theorem wrtP_length (P : PgL) (a : Int) (t : ByteArray) : (wrtP P a t).length = P.length := by unfold wrtP; split <;> simp
theorem wrtS_length (S : SL) (a b c : Int) : (wrtS S a b c).length = S.length := by unfold wrtS; split <;> simp
theorem dkP_length : ∀ (l : List Wr) (P : PgL), (dkP P l).length = P.length
 | [], _ => rfl
 | x :: r, P => by rw [dkP, dkP_length r, wrtP_length]
theorem dkS_length : ∀ (l : List Wr) (S : SL), (dkS S l).length = S.length
 | [], _ => rfl
 | x :: r, S => by rw [dkS, dkS_length r, wrtS_length]
theorem dkP_snoc (x : Wr) : ∀ (l : List Wr) (P : PgL), dkP P (l ++ [x]) = wrtP (dkP P l) x.1 x.2.1
 | [], _ => rfl
 | y :: r, P => by rw [List.cons_append, dkP, dkP, dkP_snoc x r]
theorem dkS_snoc (x : Wr) : ∀ (l : List Wr) (S : SL), dkS S (l ++ [x]) = wrtS (dkS S l) x.1 x.2.2.1 x.2.2.2
 | [], _ => rfl
 | y :: r, S => by rw [List.cons_append, dkS, dkS, dkS_snoc x r]
theorem takeW_succ (l : List Wr) (k : Nat) (hk : k < l.length) : l.take (k + 1) = l.take k ++ [(wA l k, wT l k, wV l k, wR l k)] := by
 have e := wAll_eq l k hk
 unfold wAll at e
 rw [List.take_succ_eq_append_getElem hk, e]
theorem dkP_next (l : List Wr) (P : PgL) (k : Nat) (hk : k < l.length) : dkP P (l.take (k + 1)) = wrtP (dkP P (l.take k)) (wA l k) (wT l k) := by rw [takeW_succ l k hk, dkP_snoc]
theorem dkS_next (l : List Wr) (S : SL) (k : Nat) (hk : k < l.length) : dkS S (l.take (k + 1)) = wrtS (dkS S (l.take k)) (wA l k) (wV l k) (wR l k) := by rw [takeW_succ l k hk, dkS_snoc]

theorem Row.lenq {w : World} {v : Value} {n : Nat} {xs : List Value} (h : Row w v n xs) : ∃ a q, v = .slice a n q ∧ q ≤ maxLen ∧ n ≤ q := by
 obtain ⟨a, b, off, cap, h1, h2, h3, _⟩ := h
 exact ⟨a, cap, h1, h3, h2⟩
theorem cloneS_any (v : Value) (P : PgL) (w : World) (h : Row w v P.length (flatS P)) (hn : P.length ≤ 8388608) :
  Calls Try.prog 12 #[v] w fun e w' => ∃ v', e = .returned v' ∧ w'.ownsRow w.heap.size 9 1 v' P.length (flatS P) ∧ Below w.heap.size w w' := by
 obtain ⟨a, q, hv, hq, _⟩ := h.lenq
 obtain ⟨i0, hi0, hz0, hz1, hz2⟩ := info_parts Try.info9
 have HR : Hid _ := room_row (n := P.length) (bytes := 16) hn (by decide)
 have RR : Hid (∀ u, Below w.heap.size w u → Row u v P.length (flatS P)) := fun u hu => h.below hu
 cases a with
 | none =>
  have hn0 : P.length = 0 := by
   obtain ⟨a, b, o, c, h3, h4, h5, h6, h7, h8⟩ := h
   rw [hv] at h3
   injection h3 with e1 e2 e3
   have := h8 e1.symm
   omega
  have hx : P = [] := List.length_eq_zero_iff.1 hn0
  subst hx hv
  clear h RR
  have hnil : ∀ W, (binOp .eql 24 (.slice none 0 q) (.slice none 0 0)).run Try.prog W = .ok (.bool true) W := fun W => Lib.run_eql_slice_nil_nil W _ _ Try.underlying24
  go_enter Try.func12, Try.ntmps12
  go_wp2
  go_ret
  exact ⟨_, rfl, ⟨by simp [flatS], Or.inl ⟨rfl, rfl⟩⟩, Below.refl _ _⟩
 | some p =>
  subst hv
  clear h
  have hnil : ∀ W, (binOp .eql 24 (.slice (some p) P.length q) (.slice none 0 0)).run Try.prog W = .ok (.bool false) W := fun W => Lib.run_eql_slice_some_nil W _ _ _ Try.underlying24
  go_enter Try.func12, Try.ntmps12
  go_wp2_with (at_builtin; refine app_row (w.alloc (.cells #[] 9)) rfl _ _ 24 rfl w.heap.size 9 i0 _ 1 16 Try.underlying24 hi0 hz0 hz1 hz2 rfl (by decide) (.slice (some ⟨w.heap.size, 0, none⟩) 0 0) 0 [] rfl (empty_own w w.heap.size 9 1 (Nat.le_refl _)) (.slice (some p) P.length q) P.length (flatS P) rfl (RR.out _ (bel_al (w := w) (Below.refl _ _) _)) (by rw [flatS_length]; omega) (flatS_one P) HR.out.1 HR.out.2 (by simp) ?_)
  intro v' w2 o1 _ o3
  have B2 : Below w.heap.size w w2 := Below.trans (bel_al (w := w) (Below.refl _ _) _) o3
  have O1 : Hid (w2.ownsRow w.heap.size 9 1 v' P.length (flatS P)) := o1
  clear o1 o3
  go_wp2
  go_ret
  exact ⟨_, rfl, O1.out, B2⟩

theorem cloneP_any (v : Value) (P : SL) (w : World) (h : Row w v P.length (flatP P)) (hn : P.length ≤ 8388608) :
  Calls Try.prog 13 #[v] w fun e w' => ∃ v', e = .returned v' ∧ w'.ownsRow w.heap.size 33 2 v' P.length (flatP P) ∧ Below w.heap.size w w' := by
 obtain ⟨a, q, hv, hq, _⟩ := h.lenq
 obtain ⟨i0, hi0, hz0, hz1, hz2⟩ := info_parts Try.info33
 have HR : Hid _ := room_row (n := P.length) (bytes := 16) hn (by decide)
 have RR : Hid (∀ u, Below w.heap.size w u → Row u v P.length (flatP P)) := fun u hu => h.below hu
 cases a with
 | none =>
  have hn0 : P.length = 0 := by
   obtain ⟨a, b, o, c, h3, h4, h5, h6, h7, h8⟩ := h
   rw [hv] at h3
   injection h3 with e1 e2 e3
   have := h8 e1.symm
   omega
  have hx : P = [] := List.length_eq_zero_iff.1 hn0
  subst hx hv
  clear h RR
  have hnil : ∀ W, (binOp .eql 25 (.slice none 0 q) (.slice none 0 0)).run Try.prog W = .ok (.bool true) W := fun W => Lib.run_eql_slice_nil_nil W _ _ Try.underlying25
  go_enter Try.func13, Try.ntmps13
  go_wp2
  go_ret
  exact ⟨_, rfl, ⟨by simp [flatP], Or.inl ⟨rfl, rfl⟩⟩, Below.refl _ _⟩
 | some p =>
  subst hv
  clear h
  have hnil : ∀ W, (binOp .eql 25 (.slice (some p) P.length q) (.slice none 0 0)).run Try.prog W = .ok (.bool false) W := fun W => Lib.run_eql_slice_some_nil W _ _ _ Try.underlying25
  go_enter Try.func13, Try.ntmps13
  go_wp2_with (at_builtin; refine app_row (w.alloc (.cells #[] 33)) rfl _ _ 25 rfl w.heap.size 33 i0 _ 2 16 Try.underlying25 hi0 hz0 hz1 hz2 rfl (by decide) (.slice (some ⟨w.heap.size, 0, none⟩) 0 0) 0 [] rfl (empty_own w w.heap.size 33 2 (Nat.le_refl _)) (.slice (some p) P.length q) P.length (flatP P) rfl (RR.out _ (bel_al (w := w) (Below.refl _ _) _)) (by rw [flatP_length]) (flatP_one P) HR.out.1 HR.out.2 (by simp) ?_)
  intro v' w2 o1 _ o3
  have B2 : Below w.heap.size w w2 := Below.trans (bel_al (w := w) (Below.refl _ _) _) o3
  have O1 : Hid (w2.ownsRow w.heap.size 33 2 v' P.length (flatP P)) := o1
  clear o1 o3
  go_wp2
  go_ret
  exact ⟨_, rfl, O1.out, B2⟩
end
section
open Go.RowKit

theorem atOfSuper_any (a : Int) (h0 : -9223372036854775808 ≤ a) (h1 : a ≤ 9223372036854775807) (w : World) :
  Calls Try.prog 23 #[.int .i64 a] w fun e w' => e = .returned (.int .i64 (-1 - a)) ∧ w' = w := by
 go_enter Try.func23, Try.ntmps23
 go_wp2
 go_ret
 exact ⟨rfl, rfl⟩

theorem own_page {w : World} {base : Nat} {vp : Value} {P : PgL} (h : w.ownsRow base 9 1 vp P.length (flatS P)) (a : Int) (t : ByteArray) (h0 : 0 ≤ a) (h1 : a < P.length) :
  ∃ g q, vp = .slice (some ⟨g, 0, none⟩) P.length q ∧ base ≤ g ∧ (∃ u, w.cell? ⟨g, a.toNat, none⟩ = some (.string u)) ∧ w.frozen? ⟨g, a.toNat, none⟩ = false ∧
   (w.setCell ⟨g, a.toNat, none⟩ (.string t)).ownsRow base 9 1 vp P.length (flatS (wrtP P a t)) ∧ vp.ownBlock = some g ∧ P.length ≤ q ∧ q ≤ maxLen := by
 have hlt : a.toNat < P.length := by omega
 have h' := h
 obtain ⟨hl, ⟨rfl, hz⟩ | ⟨g, q, cur, rfl, hg, hh, hn, hcap, _⟩⟩ := h
 ·omega
 ·have st := (h'.stored a.toNat (.string t)).1
  rw [flatS_set] at st
  refine ⟨g, q, rfl, hg, ⟨_, (h'.cellAt a.toNat (by omega)).trans (flatS_at P _ hlt)⟩, h'.frozenAt _, ?_, rfl, hn, hcap⟩
  unfold wrtP
  rw [if_pos ⟨h0, h1⟩]
  exact st
theorem own_super {w : World} {base : Nat} {vs : Value} {S : SL} (h : w.ownsRow base 33 2 vs S.length (flatP S)) (a b c : Int) (h0 : 0 ≤ -1 - a) (h1 : -1 - a < min 2 (S.length : Int)) :
  ∃ g q, vs = .slice (some ⟨g, 0, none⟩) S.length q ∧ base ≤ g ∧ (∃ x y, w.cell? ⟨g, (-1 - a).toNat * 2, none⟩ = some (.int .i64 x) ∧ w.cell? ⟨g, (-1 - a).toNat * 2 + 1, none⟩ = some (.int .i64 y)) ∧ w.frozen? ⟨g, (-1 - a).toNat * 2, none⟩ = false ∧ w.frozen? ⟨g, (-1 - a).toNat * 2 + 1, none⟩ = false ∧
   ((w.setCell ⟨g, (-1 - a).toNat * 2, none⟩ (.int .i64 b)).setCell ⟨g, (-1 - a).toNat * 2 + 1, none⟩ (.int .i64 c)).ownsRow base 33 2 vs S.length (flatP (wrtS S a b c)) ∧ vs.ownBlock = some g ∧ S.length ≤ q ∧ q ≤ maxLen := by
 have hlt : (-1 - a).toNat < S.length := by omega
 have h' := h
 obtain ⟨hl, ⟨rfl, hz⟩ | ⟨g, q, cur, rfl, hg, hh, hn, hcap, _⟩⟩ := h
 ·omega
 ·have st := ((h'.stored ((-1 - a).toNat * 2) (.int .i64 b)).1.stored ((-1 - a).toNat * 2 + 1) (.int .i64 c)).1
  rw [flatP_set S b c _ hlt] at st
  have hat := flatP_at S (-1 - a).toNat hlt
  refine ⟨g, q, rfl, hg, ⟨_, _, (h'.cellAt _ (by omega)).trans hat.1, (h'.cellAt _ (by omega)).trans hat.2⟩, h'.frozenAt _, h'.frozenAt _, ?_, rfl, hn, hcap⟩
  unfold wrtS
  rw [if_pos ⟨h0, h1⟩]
  exact st

theorem writeInto_any (base : Nat) (v : Value) (P : PgL) (S : SL) (a : Int) (t : ByteArray) (b c : Int) (w : World) (h : DiskOwn w base v P S) (h0 : -9223372036854775808 ≤ a) (h1 : a ≤ 9223372036854775807) :
  Calls Try.prog 14 #[v, .agg #[.int .i64 a, .string t, .int .i64 b, .int .i64 c]] w fun e w' => e = .returned (.tuple #[]) ∧ DiskOwn w' base v (wrtP P a t) (wrtS S a b c) ∧ Chg (dBlk v) w w' := by
 obtain ⟨vp, vs, rfl, o1, o2⟩ := h
 obtain ⟨ap, qp, rfl⟩ := owns_val o1
 obtain ⟨au, qu, rfl⟩ := owns_val o2
 have lp : P.length ≤ 9223372036854775807 := by obtain ⟨_, q, e, q1, q2⟩ := (Row.of_owns o1).lenq; unfold maxLen at q1; omega
 have ls : S.length ≤ 9223372036854775807 := by obtain ⟨_, q, e, q1, q2⟩ := (Row.of_owns o2).lenq; unfold maxLen at q1; omega
 by_cases ha : 0 ≤ a
 ·have hSS : wrtS S a b c = S := by unfold wrtS; rw [if_neg (by omega)]
  rw [hSS]
  have hn : ¬ 0 ≤ -1 - a := by omega
  clear hSS
  by_cases hp : a < P.length
  ·obtain ⟨n, rfl⟩ := Int.eq_ofNat_of_zero_le ha
   obtain ⟨g, q, e, hg, ⟨u, hc⟩, hf, st, hob, hn2, hq⟩ := own_page o1 n t ha hp
   injection e with e1 e2 e3
   subst e1 e3
   rw [Int.toNat_natCast] at hc hf st
   have cs := owns_chg o2 ((Chg.refl (fun g' => (Value.slice (some ⟨g, 0, none⟩) P.length qp).ownBlock = some g') _).setAt g n rfl (.string t)) (fun g' hs hp' => blk_ne o1 o2 hp' hs)
   have hgl : g < w.heap.size := (o1.lt g hob).2
   have hg1 : ¬ w.heap.size + 1 = g := by omega
   have hg2 : ¬ g = w.heap.size + 1 := by omega
   have hg3 : ¬ w.heap.size = g := by omega
   have hg4 : ¬ g = w.heap.size := by omega
   have O : Hid _ := And.intro st (And.intro cs ((Chg.refl (dBlk (.agg #[.slice (some ⟨g, 0, none⟩) P.length qp, .slice au S.length qu])) w).setAt g n ⟨_, _, rfl, Or.inl rfl⟩ (.string t)))
   unfold maxLen at hq
   clear o1 o2 st cs hob
   go_enter Try.func14, Try.ntmps14
   go_wp2_with fail
   refine (atOfSuper_any n h0 h1 _).mono ?_
   rintro e w1 ⟨rfl, hw1⟩
   subst hw1
   go_wp2
   go_end0
   obtain ⟨st, cs, bs⟩ := O.out
   exact ⟨rfl, ⟨_, _, rfl, by rw [wrtP_length]; exact owns_below st (bel_al (bel_al (Below.refl _ _) _) _), owns_below cs (bel_al (bel_al (Below.refl _ _) _) _)⟩, (bs.alloc _).alloc _⟩
  ·have hSP : wrtP P a t = P := by unfold wrtP; rw [if_neg (by omega)]
   rw [hSP]
   have O : Hid _ := And.intro o1 o2
   clear hSP o1 o2
   go_enter Try.func14, Try.ntmps14
   go_wp2_with fail
   refine (atOfSuper_any a h0 h1 _).mono ?_
   rintro e w1 ⟨rfl, hw1⟩
   subst hw1
   go_wp2
   go_end0
   refine ⟨rfl, ⟨_, _, rfl, ?_, ?_⟩, ?_⟩
   ·exact owns_below O.out.1 (bel_al (bel_al (Below.refl _ _) _) _)
   ·exact owns_below O.out.2 (bel_al (bel_al (Below.refl _ _) _) _)
   ·exact Chg.of_below (bel_al (bel_al (Below.refl _ _) _) _)
 ·have hSP : wrtP P a t = P := by unfold wrtP; rw [if_neg (by omega)]
  rw [hSP]
  clear hSP
  by_cases hs : -1 - a < min 2 (S.length : Int)
  ·have hs0 : 0 ≤ -1 - a := by omega
   have bW : Below w.heap.size w ((w.alloc (.cells #[.slice ap P.length qp, .slice au S.length qu] 27)).alloc (.cells #[.int .i64 a, .string t, .int .i64 b, .int .i64 c] 35)) := bel_al (bel_al (Below.refl _ _) _) _
   have o1' := owns_below o1 bW
   have o2' := owns_below o2 bW
   obtain ⟨g, q, e, hg, ⟨x, y, hc, hd⟩, hf, hf', st, hob, hn2, hq⟩ := own_super o2' a b c hs0 hs
   injection e with e1 e2 e3
   subst e1 e3
   obtain ⟨m, hm⟩ := Int.eq_ofNat_of_zero_le hs0
   have hm' : (-1 - a).toNat = m := by omega
   rw [hm'] at hc hd hf hf' st
   have cs := owns_chg o1' (((Chg.refl (fun g' => (Value.slice (some ⟨g, 0, none⟩) S.length qu).ownBlock = some g') _).setAt g (m * 2) rfl (.int .i64 b)).setAt g (m * 2 + 1) rfl (.int .i64 c)) (fun g' hp' hs => blk_ne o1' o2' hp' hs)
   have O : Hid _ := And.intro cs (And.intro st (((((Chg.refl (dBlk (.agg #[.slice ap P.length qp, .slice (some ⟨g, 0, none⟩) S.length qu])) w).alloc (.cells #[.slice ap P.length qp, .slice (some ⟨g, 0, none⟩) S.length qu] 27)).alloc (.cells #[.int .i64 a, .string t, .int .i64 b, .int .i64 c] 35)).setAt g (m * 2) ⟨_, _, rfl, Or.inr rfl⟩ (.int .i64 b)).setAt g (m * 2 + 1) ⟨_, _, rfl, Or.inr rfl⟩ (.int .i64 c)))
   have HM : Hid _ := hm
   have hm2 : m < S.length := by omega
   have hm3 : m < 2 := by omega
   unfold maxLen at hq
   clear o1 o2 o1' o2' st cs bW hob hm hm' hs hs0
   go_enter Try.func14, Try.ntmps14
   go_wp2_with fail
   refine (atOfSuper_any a h0 h1 _).mono ?_
   rintro e w1 ⟨rfl, hw1⟩
   subst hw1
   rw [HM.out]
   go_wp2
   all_goals
    go_end0
    exact ⟨rfl, ⟨_, _, rfl, O.out.1, by rw [wrtS_length]; exact O.out.2.1⟩, O.out.2.2⟩
  ·have hSS : wrtS S a b c = S := by unfold wrtS; rw [if_neg (by omega)]
   rw [hSS]
   have O : Hid _ := And.intro o1 o2
   have hn : 0 ≤ -1 - a := by omega
   clear hSS o1 o2
   go_enter Try.func14, Try.ntmps14
   go_wp2_with fail
   refine (atOfSuper_any a h0 h1 _).mono ?_
   rintro e w1 ⟨rfl, hw1⟩
   subst hw1
   go_wp2
   all_goals
    go_end0
    refine ⟨rfl, ⟨_, _, rfl, ?_, ?_⟩, ?_⟩
    ·exact owns_below O.out.1 (bel_al (bel_al (Below.refl _ _) _) _)
    ·exact owns_below O.out.2 (bel_al (bel_al (Below.refl _ _) _) _)
    ·exact Chg.of_below (bel_al (bel_al (Below.refl _ _) _) _)
end
section
open Go.RowKit

def Gd (w : World) (A B : Obj) (u : World) : Prop := Below w.heap.size w u ∧ w.heap.size + 1 < u.heap.size ∧ u.heap[w.heap.size]? = some A ∧ u.heap[w.heap.size + 1]? = some B
theorem Gd.start (w : World) (A B : Obj) : Gd w A B ((w.alloc A).alloc B) := by
 obtain ⟨a0, a1, _⟩ := al3d w A B (.cells #[] 0)
 have s1 := al_size w A
 have s2 := al_size (w.alloc A) B
 have k3 := fun (k : Nat) (h : k < ((w.alloc A).alloc B).heap.size) => (bel_al (w := (w.alloc A).alloc B) (Below.refl _ _) (.cells #[] 0)).block k h
 exact ⟨bel_al (bel_al (Below.refl _ _) _) _, by omega, (k3 _ (by omega)).symm.trans a0, (k3 _ (by omega)).symm.trans a1⟩
theorem Gd.below {w : World} {A B : Obj} {u u' : World} (h : Gd w A B u) (hb : Below u.heap.size u u') : Gd w A B u' :=
 ⟨Below.and h.1 hb, Nat.lt_of_lt_of_le h.2.1 hb.size, (hb.block _ (by have := h.2.1; omega)).trans h.2.2.1, (hb.block _ h.2.1).trans h.2.2.2⟩
theorem Gd.al {w : World} {A B : Obj} {u : World} (h : Gd w A B u) (o : Obj) : Gd w A B (u.alloc o) := h.below (bel_al (Below.refl _ _) o)
theorem Gd.drew {w : World} {A B : Obj} {u : World} (h : Gd w A B u) : Gd w A B u.drew := h.below (Below.refl _ _).drew
end
end Go.Proofs.Ytekcnibohikmdaa
