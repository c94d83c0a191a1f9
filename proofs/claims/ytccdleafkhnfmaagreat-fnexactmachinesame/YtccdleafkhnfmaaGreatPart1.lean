/-
  The plain functions that chapter 1's code computes (numbers and lists alone; nothing of the program).
  Rows of cells behind a slice's value, read and owned; lists of pairs as such rows.
  Contracts of the small functions of chapter 1 on numbers and messages.
  Contracts of the functions on lists of pairs that the laws and chapter 1 use.
  Contracts of the sorted search, the insertion and the deletion at slices of ints, laid at this program from the library of contracts.
  What a call changes, told by the set of blocks that it may write; rows of ints under insertion and deletion.
  The generic sorted map of chapter 1 at ints: its three methods, by contracts.
  The laws' own functions that write marks into a list of pairs, and look for them.
  MapGet as a plain function.
  Maps as ascending lists of pairs: putting, deleting, getting; plain mathematics.
  Lists of messages as rows of cells; the laws' own functions on them.
-/
import Derived.Test.YtccdleafkhnfmaaGreatRows
import Derived.WalkKit
import Derived.WalkSpells
import Derived.WalkLawsBesides
import Derived.Deep.QuietTactic
import Derived.BigQuiet
import Derived.Deep.RegionWith
import Derived.Ground.Names2Prog
import Derived.Shelf.Slices.SearchI
import Derived.Shelf.Slices.Delete
import Derived.Shelf.Slices.Empties
import Derived.Shelf.Spec.SlicesInsert
import Derived.Shelf.Spec.SlicesInsertGrow
import Derived.Test.YtccdleafkhnfmaaGreatProg
import Derived.Lib.RowBridge
namespace Go.Proofs.YtccdleafkhnfmaaGreat

def inB (x lo hi : Int) : Bool := decide (lo ≤ x ∧ x ≤ hi)
theorem inB_true {x lo hi : Int} (h1 : lo ≤ x) (h2 : x ≤ hi) : inB x lo hi = true := by simp [inB, h1, h2]
theorem inB_false1 {x lo hi : Int} (h1 : ¬ lo ≤ x) : inB x lo hi = false := by simp [inB]; omega
theorem inB_false2 {x lo hi : Int} (h2 : ¬ x ≤ hi) : inB x lo hi = false := by simp [inB]; omega
theorem inB_iff {x lo hi : Int} : inB x lo hi = true ↔ lo ≤ x ∧ x ≤ hi := by simp [inB]

/-- a message that is as told -/
def msgOkB (o k v : Int) : Bool := inB o 1 4 && (inB k 0 999 && (inB v (-1000000000) 1000000000 && ((v == 0) || ((o == 1) || (o == 3)))))

/-- the key, the value of the i-th pair -/
def kOf (l : List (Int × Int)) (i : Nat) : Int := (l.getD i (0, 0)).1
def vOf (l : List (Int × Int)) (i : Nat) : Int := (l.getD i (0, 0)).2
def eqPairB (a b c d : Int) : Bool := decide (a = c ∧ b = d)

/-- the i-th pair stands right in its list -/
def okAt (l : List (Int × Int)) (i : Nat) : Bool := inB (kOf l i) 0 999 && (inB (vOf l i) (-1000000000) 1000000000 && (i == 0 || decide (kOf l (i - 1) < kOf l i)))
/-- a list of pairs that is a map -/
def mapOkB (l : List (Int × Int)) : Bool := (List.range l.length).all (okAt l)

theorem mapOkB_true {l : List (Int × Int)} (h : ∀ i, i < l.length → okAt l i = true) : mapOkB l = true := by
  simp only [mapOkB, List.all_eq_true, List.mem_range]; exact h
theorem mapOkB_false {l : List (Int × Int)} {i : Nat} (hi : i < l.length) (h : okAt l i = false) : mapOkB l = false := by
  rw [Bool.eq_false_iff]
  intro hc
  simp only [mapOkB, List.all_eq_true, List.mem_range] at hc
  have := hc i hi
  rw [h] at this
  cases this
theorem mapOkB_at {l : List (Int × Int)} (h : mapOkB l = true) {i : Nat} (hi : i < l.length) : okAt l i = true := by
  simp only [mapOkB, List.all_eq_true, List.mem_range] at h
  exact h i hi

theorem ext_of {l1 l2 : List (Int × Int)} (hl : l1.length = l2.length) (h : ∀ i, i < l1.length → kOf l1 i = kOf l2 i ∧ vOf l1 i = vOf l2 i) : l1 = l2 := by
  apply List.ext_getElem hl
  intro i h1 h2
  have := h i h1
  simp only [kOf, vOf, List.getD, List.getElem?_eq_getElem h1, List.getElem?_eq_getElem h2, Option.getD_some] at this
  exact Prod.ext this.1 this.2
theorem eqPairB_true {a b c d : Int} (h : eqPairB a b c d = true) : a = c ∧ b = d := by simpa [eqPairB] using h
theorem ne_of_eqPairB {l1 l2 : List (Int × Int)} {k : Nat} (h : eqPairB (kOf l1 k) (vOf l1 k) (kOf l2 k) (vOf l2 k) = false) : l1 ≠ l2 := by
  intro e; subst e; simp [eqPairB] at h

end Go.Proofs.YtccdleafkhnfmaaGreat

namespace Go.Proofs.YtccdleafkhnfmaaGreat
open Go.RowKit

theorem bcell {W w1 : World} (hb : Below W.heap.size W w1) : (∀ b o, b < W.heap.size → w1.cell? ⟨b, o, none⟩ = W.cell? ⟨b, o, none⟩) ∧ (∀ b o, b < W.heap.size → w1.frozen? ⟨b, o, none⟩ = W.frozen? ⟨b, o, none⟩) :=
  ⟨fun b o h => hb.cell (p := ⟨b, o, none⟩) h, fun b o h => hb.frozen (p := ⟨b, o, none⟩) h⟩
theorem Below.and {w w1 w2 : World} (h1 : Below w.heap.size w w1) (h2 : Below w1.heap.size w1 w2) : Below w.heap.size w w2 := h1.trans (h2.mono h1.size)
theorem ret_bool {a b : Bool} (h : a = b) : Ending.returned (.bool a) = .returned (.bool b) := by rw [h]
theorem ret_int {k : IntKind} {a b : Int} (h : a = b) : Ending.returned (.int k a) = .returned (.int k b) := by rw [h]

theorem cell_lt {w : World} {a : Addr} {v : Value} (h : w.cell? a = some v) : a.block < w.heap.size := by
  unfold World.cell? at h
  by_cases hb : a.block < w.heap.size
  · exact hb
  · simp [Array.getElem?_eq_none (Nat.le_of_not_lt hb)] at h

/-- THE SLICE VALUE v, of n elements, LEADS TO THE CELLS xs. -/
def Row (w : World) (v : Value) (n : Nat) (xs : List Value) : Prop :=
  ∃ (a : Option Addr) (b off cap : Nat), v = .slice a n cap ∧ n ≤ cap ∧ cap ≤ maxLen ∧ (0 < n → a = some ⟨b, off, none⟩) ∧ (∀ j u, xs[j]? = some u → w.cell? ⟨b, off + j, none⟩ = some u) ∧ (a = none → cap = 0)

theorem Row.below {w w' : World} {v : Value} {n : Nat} {xs : List Value} (h : Row w v n xs) (hb : Below w.heap.size w w') : Row w' v n xs := by
  obtain ⟨a, b, off, cap, h1, h2, h3, h4, h5, h6⟩ := h
  refine ⟨a, b, off, cap, h1, h2, h3, h4, fun j u hj => ?_, h6⟩
  have := h5 j u hj
  rw [hb.cell (p := ⟨b, off + j, none⟩) (cell_lt this)]
  exact this

theorem Row.of_owns {w : World} {base e size n : Nat} {v : Value} {xs : List Value} (h : w.ownsRow base e size v n xs) : Row w v n xs := by
  have h0 := h
  obtain ⟨hl, h | ⟨g, cap, cur, rfl, hg, hh, hn, hcap, hsz, htake⟩⟩ := h
  · obtain ⟨rfl, rfl⟩ := h
    have hx : xs = [] := by simpa using hl
    subst hx
    exact ⟨none, 0, 0, 0, rfl, Nat.le_refl _, Nat.zero_le _, fun h => absurd h (Nat.lt_irrefl _), fun j u hj => by simp at hj, fun _ => rfl⟩
  · refine ⟨some ⟨g, 0, none⟩, g, 0, cap, rfl, hn, hcap, fun _ => rfl, fun j u hj => ?_, fun h => by cases h⟩
    have hlt : j < n * size := by
      have := (List.getElem?_eq_some_iff.1 hj).1
      omega
    rw [Nat.zero_add, h0.cellAt j hlt]
    exact hj

theorem owns_below {w w' : World} {base e size n : Nat} {v : Value} {xs : List Value} (h : w.ownsRow base e size v n xs) (hb : Below w.heap.size w w') : w'.ownsRow base e size v n xs := by
  obtain ⟨hl, h | ⟨g, cap, cur, rfl, hg, hh, hn, hcap, hsz, htake⟩⟩ := h
  · exact ⟨hl, .inl h⟩
  · refine ⟨hl, .inr ⟨g, cap, cur, rfl, hg, ?_, hn, hcap, hsz, htake⟩⟩
    rw [hb.block g (Array.getElem?_eq_some_iff.1 hh).1]
    exact hh
theorem owns_mono {w : World} {base base' e size n : Nat} {v : Value} {xs : List Value} (h : w.ownsRow base e size v n xs) (hb : base' ≤ base) : w.ownsRow base' e size v n xs := by
  obtain ⟨hl, h | ⟨g, cap, cur, rfl, hg, hh, hn, hcap, hsz, htake⟩⟩ := h
  · exact ⟨hl, .inl h⟩
  · exact ⟨hl, .inr ⟨g, cap, cur, rfl, Nat.le_trans hb hg, hh, hn, hcap, hsz, htake⟩⟩

/-- the cells of a list of pairs -/
def flatP (l : List (Int × Int)) : List Value := l.flatMap fun p => [.int .i64 p.1, .int .i64 p.2]

theorem flatP_length (l : List (Int × Int)) : (flatP l).length = l.length * 2 := by
  induction l with
  | nil => rfl
  | cons a l ih => simp only [flatP, List.flatMap_cons, List.length_append, List.length_cons, List.length_nil] at *; omega
theorem flatP_append (l m : List (Int × Int)) : flatP (l ++ m) = flatP l ++ flatP m := by simp [flatP, List.flatMap_append]
theorem flatP_at (l : List (Int × Int)) : ∀ i, i < l.length → (flatP l)[i * 2]? = some (.int .i64 (kOf l i)) ∧ (flatP l)[i * 2 + 1]? = some (.int .i64 (vOf l i)) := by
  induction l with
  | nil => intro i h; simp at h
  | cons a l ih =>
    intro i h
    cases i with
    | zero => simp [flatP, kOf, vOf]
    | succ i =>
      have := ih i (by simpa using h)
      have e1 : (i + 1) * 2 = i * 2 + 1 + 1 := by omega
      have e2 : (i + 1) * 2 + 1 = (i * 2 + 1) + 1 + 1 := by omega
      rw [e2, e1]
      simpa [flatP, kOf, vOf] using this

theorem Row.pairs {w : World} {v : Value} {l : List (Int × Int)} (h : Row w v l.length (flatP l)) :
    ∃ (a : Option Addr) (b off cap : Nat), v = .slice a l.length cap ∧ l.length ≤ cap ∧ cap ≤ maxLen ∧ (0 < l.length → a = some ⟨b, off, none⟩) ∧
      (∀ i, i < l.length → w.cell? ⟨b, off + i * 2, none⟩ = some (.int .i64 (kOf l i))) ∧ (∀ i, i < l.length → w.cell? ⟨b, off + i * 2 + 1, none⟩ = some (.int .i64 (vOf l i))) := by
  obtain ⟨a, b, off, cap, h1, h2, h3, h4, h5, _⟩ := h
  exact ⟨a, b, off, cap, h1, h2, h3, h4, fun i hi => h5 _ _ (flatP_at l i hi).1, fun i hi => h5 _ _ (flatP_at l i hi).2⟩

end Go.Proofs.YtccdleafkhnfmaaGreat

namespace Go.Proofs.YtccdleafkhnfmaaGreat
open Go.RowKit

set_option maxHeartbeats 400000 in
theorem l1In_any (x lo hi : Int) (w : World) :
    Calls Tryz.prog 65 #[.int .i64 x, .int .i64 lo, .int .i64 hi] w fun e w' => e = .returned (.bool (inB x lo hi)) ∧ w' = w := by
  by_cases h1 : lo ≤ x
  · by_cases h2 : x ≤ hi
    · have E : Hid (inB x lo hi = true) := inB_true h1 h2
      go_enter Tryz.func65, Tryz.ntmps65
      go_wp2
      go_ret
      exact ⟨ret_bool E.out.symm, rfl⟩
    · have E : Hid (inB x lo hi = false) := inB_false2 h2
      go_enter Tryz.func65, Tryz.ntmps65
      go_wp2
      go_ret
      exact ⟨ret_bool E.out.symm, rfl⟩
  · have E : Hid (inB x lo hi = false) := inB_false1 h1
    go_enter Tryz.func65, Tryz.ntmps65
    go_wp2
    go_ret
    exact ⟨ret_bool E.out.symm, rfl⟩

set_option maxHeartbeats 400000 in
theorem l1Value_any (x : Int) (w : World) :
    Calls Tryz.prog 86 #[.int .i64 x] w fun e w' => e = .returned (.bool (inB x (-1000000000) 1000000000)) ∧ w' = w := by
  go_enter Tryz.func86, Tryz.ntmps86
  go_wp2_with (go_at_call 65; refine (l1In_any _ _ _ _).mono ?_; rintro e w' ⟨rfl, rfl⟩)
  go_ret
  exact ⟨rfl, rfl⟩

set_option maxHeartbeats 400000 in
theorem keyOk_any (x : Int) (w : World) :
    Calls Tryz.prog 78 #[.int .i64 x] w fun e w' => e = .returned (.bool (inB x 0 999)) ∧ w' = w := by
  by_cases h1 : 0 ≤ x
  · by_cases h2 : x ≤ 999
    · have E : Hid (inB x 0 999 = true) := inB_true h1 h2
      go_enter Tryz.func78, Tryz.ntmps78
      go_wp2
      go_ret
      exact ⟨ret_bool E.out.symm, rfl⟩
    · have E : Hid (inB x 0 999 = false) := inB_false2 h2
      go_enter Tryz.func78, Tryz.ntmps78
      go_wp2
      go_ret
      exact ⟨ret_bool E.out.symm, rfl⟩
  · have E : Hid (inB x 0 999 = false) := inB_false1 h1
    go_enter Tryz.func78, Tryz.ntmps78
    go_wp2
    go_ret
    exact ⟨ret_bool E.out.symm, rfl⟩

set_option maxHeartbeats 400000 in
theorem valueOk_any (x : Int) (w : World) :
    Calls Tryz.prog 79 #[.int .i64 x] w fun e w' => e = .returned (.bool (inB x (-1000000000) 1000000000)) ∧ w' = w := by
  by_cases h1 : -1000000000 ≤ x
  · by_cases h2 : x ≤ 1000000000
    · have E : Hid (inB x (-1000000000) 1000000000 = true) := inB_true h1 h2
      go_enter Tryz.func79, Tryz.ntmps79
      go_wp2
      go_ret
      exact ⟨ret_bool E.out.symm, rfl⟩
    · have E : Hid (inB x (-1000000000) 1000000000 = false) := inB_false2 h2
      go_enter Tryz.func79, Tryz.ntmps79
      go_wp2
      go_ret
      exact ⟨ret_bool E.out.symm, rfl⟩
  · have E : Hid (inB x (-1000000000) 1000000000 = false) := inB_false1 h1
    go_enter Tryz.func79, Tryz.ntmps79
    go_wp2
    go_ret
    exact ⟨ret_bool E.out.symm, rfl⟩

set_option maxHeartbeats 400000 in
theorem specMsgOk_any (o k v : Int) (w : World) :
    Calls Tryz.prog 66 #[.agg #[.int .i64 o, .int .i64 k, .int .i64 v]] w fun e w' => e = .returned (.bool (msgOkB o k v)) ∧ Below w.heap.size w w' := by
  go_enter Tryz.func66, Tryz.ntmps66
  go_wp2_with (first | (go_at_call 65; refine (l1In_any _ _ _ _).mono ?_; rintro e w' ⟨rfl, rfl⟩) | (go_at_call 86; refine (l1Value_any _ _).mono ?_; rintro e w' ⟨rfl, rfl⟩))
  all_goals (go_ret; refine ⟨ret_bool ?_, (Below.refl _ _).alloc (Nat.le_refl _) _⟩; simp_all [msgOkB, Bool.or_assoc])

theorem msgOk_13 {o k v : Int} (h : o = 1 ∨ o = 3) : msgOkB o k v = (inB k 0 999 && inB v (-1000000000) 1000000000) := by
  rcases h with rfl | rfl <;> simp [msgOkB, inB]
theorem msgOk_24 {o k v : Int} (h : o = 2 ∨ o = 4) : msgOkB o k v = (inB k 0 999 && (v == 0)) := by
  have ho : inB o 1 4 = true := by rcases h with rfl | rfl <;> rfl
  have h1 : (o == 1) = false := by rcases h with rfl | rfl <;> rfl
  have h3 : (o == 3) = false := by rcases h with rfl | rfl <;> rfl
  by_cases hv : v = 0
  · subst hv
    have : inB 0 (-1000000000) 1000000000 = true := by decide
    simp [msgOkB, ho, this]
  · have : (v == 0) = false := by simpa using hv
    simp [msgOkB, h1, h3, this]
theorem msgOk_no {o k v : Int} (h1 : (o == 1) = false) (h2 : (o == 2) = false) (h3 : (o == 3) = false) (h4 : (o == 4) = false) : msgOkB o k v = false := by
  have : inB o 1 4 = false := by
    simp only [beq_eq_false_iff_ne] at *
    simp only [inB, decide_eq_false_iff_not]; omega
  simp [msgOkB, this]

set_option maxHeartbeats 400000 in
theorem implMsgOk_any (o k v : Int) (w : World) :
    Calls Tryz.prog 81 #[.agg #[.int .i64 o, .int .i64 k, .int .i64 v]] w fun e w' => e = .returned (.bool (msgOkB o k v)) ∧ Below w.heap.size w w' := by
  rcases (show (o == 1) = true ∨ ((o == 1) = false ∧ (o == 3) = true) ∨ ((o == 1) = false ∧ (o == 3) = false ∧ (o == 2) = true) ∨ ((o == 1) = false ∧ (o == 3) = false ∧ (o == 2) = false ∧ (o == 4) = true) ∨ ((o == 1) = false ∧ (o == 3) = false ∧ (o == 2) = false ∧ (o == 4) = false) from by
    cases (o == 1) <;> cases (o == 2) <;> cases (o == 3) <;> cases (o == 4) <;> simp) with h | ⟨h1, h⟩ | ⟨h1, h3, h⟩ | ⟨h1, h3, h2, h⟩ | ⟨h1, h3, h2, h⟩
  · have E : Hid (msgOkB o k v = (inB k 0 999 && inB v (-1000000000) 1000000000)) := msgOk_13 (Or.inl (by simpa using h))
    go_enter Tryz.func81, Tryz.ntmps81
    go_wp2_with (first | (go_at_call 78; refine (keyOk_any _ _).mono ?_; rintro e w' ⟨rfl, rfl⟩) | (go_at_call 79; refine (valueOk_any _ _).mono ?_; rintro e w' ⟨rfl, rfl⟩))
    all_goals (go_ret; refine ⟨ret_bool ?_, (Below.refl _ _).alloc (Nat.le_refl _) _⟩; rw [E.out]; simp [*])
  · have E : Hid (msgOkB o k v = (inB k 0 999 && inB v (-1000000000) 1000000000)) := msgOk_13 (Or.inr (by simpa using h))
    go_enter Tryz.func81, Tryz.ntmps81
    go_wp2_with (first | (go_at_call 78; refine (keyOk_any _ _).mono ?_; rintro e w' ⟨rfl, rfl⟩) | (go_at_call 79; refine (valueOk_any _ _).mono ?_; rintro e w' ⟨rfl, rfl⟩))
    all_goals (go_ret; refine ⟨ret_bool ?_, (Below.refl _ _).alloc (Nat.le_refl _) _⟩; rw [E.out]; simp [*])
  · have E : Hid (msgOkB o k v = (inB k 0 999 && (v == 0))) := msgOk_24 (Or.inl (by simpa using h))
    go_enter Tryz.func81, Tryz.ntmps81
    go_wp2_with (first | (go_at_call 78; refine (keyOk_any _ _).mono ?_; rintro e w' ⟨rfl, rfl⟩) | (go_at_call 79; refine (valueOk_any _ _).mono ?_; rintro e w' ⟨rfl, rfl⟩))
    all_goals (go_ret; refine ⟨ret_bool ?_, (Below.refl _ _).alloc (Nat.le_refl _) _⟩; rw [E.out]; simp [*])
  · have E : Hid (msgOkB o k v = (inB k 0 999 && (v == 0))) := msgOk_24 (Or.inr (by simpa using h))
    go_enter Tryz.func81, Tryz.ntmps81
    go_wp2_with (first | (go_at_call 78; refine (keyOk_any _ _).mono ?_; rintro e w' ⟨rfl, rfl⟩) | (go_at_call 79; refine (valueOk_any _ _).mono ?_; rintro e w' ⟨rfl, rfl⟩))
    all_goals (go_ret; refine ⟨ret_bool ?_, (Below.refl _ _).alloc (Nat.le_refl _) _⟩; rw [E.out]; simp [*])
  · have E : Hid (msgOkB o k v = false) := msgOk_no h1 h2 h3 h
    go_enter Tryz.func81, Tryz.ntmps81
    go_wp2
    go_ret
    exact ⟨ret_bool E.out.symm, (Below.refl _ _).alloc (Nat.le_refl _) _⟩

set_option maxHeartbeats 400000 in
theorem toMsg_any (o k v : Int) (w : World) :
    Calls Tryz.prog 42 #[.agg #[.int .i64 o, .int .i64 k, .int .i64 v]] w fun e w' => e = .returned (.agg #[.int .i64 o, .int .i64 k, .int .i64 v]) ∧ Below w.heap.size w w' := by
  go_enter Tryz.func42, Tryz.ntmps42
  go_wp2
  refine bodyPost_ret (v := .agg #[.int .i64 o, .int .i64 k, .int .i64 v]) (by simp [results, Tryz.results42, go_sem]) rfl ⟨rfl, ?_⟩
  exact (((Below.refl _ _).alloc (Nat.le_refl _) _).alloc (by simp) _).alloc (by simp; omega) _

end Go.Proofs.YtccdleafkhnfmaaGreat

namespace Go.Proofs.YtccdleafkhnfmaaGreat
open Go.RowKit

set_option maxHeartbeats 400000 in
theorem toPair_any (k v : Int) (w : World) :
    Calls Tryz.prog 41 #[.agg #[.int .i64 k, .int .i64 v]] w fun e w' => e = .returned (.agg #[.int .i64 k, .int .i64 v]) ∧ Below w.heap.size w w' := by
  go_enter Tryz.func41, Tryz.ntmps41
  go_wp2
  refine bodyPost_ret (v := .agg #[.int .i64 k, .int .i64 v]) (by simp [results, Tryz.results41, go_sem]) rfl ⟨rfl, ?_⟩
  exact (((Below.refl _ _).alloc (Nat.le_refl _) _).alloc (by simp) _).alloc (by simp; omega) _

set_option maxHeartbeats 400000 in
theorem eqPair_any (a b c d : Int) (w : World) :
    Calls Tryz.prog 50 #[.agg #[.int .i64 a, .int .i64 b], .agg #[.int .i64 c, .int .i64 d]] w fun e w' => e = .returned (.bool (eqPairB a b c d)) ∧ Below w.heap.size w w' := by
  go_enter Tryz.func50, Tryz.ntmps50
  go_wp2
  all_goals (go_ret; refine ⟨ret_bool ?_, ((Below.refl _ _).alloc (Nat.le_refl _) _).alloc (by simp) _⟩; simp_all [eqPairB])

set_option maxHeartbeats 400000 in
theorem szPairS_any (a : Option Addr) (n cap : Nat) (left : Int) (hn : n ≤ maxLen) (hl : 0 ≤ left) (hl2 : left ≤ 1048576) (w : World) :
    Calls Tryz.prog 20 #[.slice a n cap, .int .i64 left] w fun e w' => e = .returned (.int .i64 (if (n : Int) ≤ left then left - n else -1)) ∧ w' = w := by
  unfold maxLen at hn
  by_cases h : (n : Int) ≤ left
  · go_enter Tryz.func20, Tryz.ntmps20
    go_wp2
    go_ret
    exact ⟨rfl, rfl⟩
  · go_enter Tryz.func20, Tryz.ntmps20
    go_wp2
    go_ret
    exact ⟨rfl, rfl⟩

theorem Tryz.info53 : (Tryz.prog.info? 53).map (fun i => (i.zero, i.size, i.bytes)) = some (some (.agg #[.int .i64 0, .int .i64 0]), 2, 16) := by kernel_rfl

def filledP (l : List (Int × Int)) (k : Nat) : List Value := flatP (l.take k) ++ List.replicate ((l.length - k) * 2) (.int .i64 0)

theorem madeCells_all (zs : Array Value) (z : Value) (h0 : 0 < zs.size) (h : ∀ i, i < zs.size → zs[i]! = z) (n : Nat) : (madeCells zs n).toList = List.replicate n z := by
  apply List.ext_getElem?
  intro j
  by_cases hj : j < n
  · simp [madeCells, hj]
    exact h _ (Nat.mod_lt _ h0)
  · simp [madeCells, hj]

theorem filledP_length (l : List (Int × Int)) (k : Nat) (hk : k ≤ l.length) : (filledP l k).length = l.length * 2 := by
  simp [filledP, flatP_length]; omega
theorem filledP_full (l : List (Int × Int)) : filledP l l.length = flatP l := by simp [filledP]
theorem take_succP (l : List (Int × Int)) (k : Nat) (hk : k < l.length) : l.take (k + 1) = l.take k ++ [(kOf l k, vOf l k)] := by
  have e : (kOf l k, vOf l k) = l[k] := by simp [kOf, vOf, List.getD, hk]
  rw [List.take_succ_eq_append_getElem hk, e]
theorem filledP_zero (l : List (Int × Int)) (k : Nat) (hk : k < l.length) : (filledP l k)[k * 2]? = some (.int .i64 0) ∧ (filledP l k)[k * 2 + 1]? = some (.int .i64 0) := by
  have hl : (flatP (l.take k)).length = k * 2 := by rw [flatP_length]; simp; omega
  constructor
  · rw [filledP, List.getElem?_append_right (by omega), List.getElem?_replicate_of_lt (by omega)]
  · rw [filledP, List.getElem?_append_right (by omega), List.getElem?_replicate_of_lt (by omega)]
theorem filledP_step (l : List (Int × Int)) (k : Nat) (hk : k < l.length) : ((filledP l k).set (k * 2) (.int .i64 (kOf l k))).set (k * 2 + 1) (.int .i64 (vOf l k)) = filledP l (k + 1) := by
  have hl : (flatP (l.take k)).length = k * 2 := by rw [flatP_length]; simp; omega
  obtain ⟨m, hm⟩ : ∃ m, (l.length - k) * 2 = m + 1 + 1 := ⟨(l.length - k) * 2 - 2, by omega⟩
  have hm2 : (l.length - (k + 1)) * 2 = m := by omega
  rw [filledP, filledP, take_succP l k hk, flatP_append, hm, hm2, List.replicate_succ, List.replicate_succ]
  rw [List.set_append_right _ _ (by omega), hl, Nat.sub_self, List.set_cons_zero, List.set_append_right _ _ (by omega), hl, show k * 2 + 1 - k * 2 = 1 by omega]
  simp [flatP]

set_option maxHeartbeats 1000000 in
theorem toPairS_any (v : Value) (l : List (Int × Int)) (w : World) (hr : Row w v l.length (flatP l)) (hn : l.length ≤ 1048576) :
    Calls Tryz.prog 26 #[v] w fun e w' => ∃ v', e = .returned v' ∧ w'.ownsRow w.heap.size 53 2 v' l.length (flatP l) ∧ Below w.heap.size w w' := by
  obtain ⟨a, b, off, cap, rfl, hcap, hmax, ha, hk, hv⟩ := hr.pairs
  obtain ⟨i0, hi, hz0, hz1, hz2⟩ := info_parts Tryz.info53
  unfold maxLen at hmax
  go_enter Tryz.func26, Tryz.ntmps26
  go_wp2_with (at_make; refine wpList_make_full _ rfl _ _ 33 rfl w.heap.size 53 i0 _ 2 Tryz.underlying33 hi hz0 hz1 .i64 .i64 _ _ l.length rfl rfl rfl rfl ?c1 ?c2 ?c3 ?_)
  case c1 => rw [hz2]; omega
  case c2 => unfold maxLen; omega
  case c3 => exact Nat.le_refl _
  intro w0 hown0 hgrow0
  have hb0 : Below w.heap.size w w0 := (Below.refl _ _).grown hgrow0 (Nat.le_refl _) (fun k hk => by cases hk)
  clear hgrow0
  go_wp2
  go_loopw [4] (fun i wr => ∃ k : Nat, k ≤ l.length ∧ i = .int .i64 k ∧ wr.ownsRow w.heap.size 53 2 (.slice (some ⟨w.heap.size, 0, none⟩) l.length l.length) l.length (filledP l k) ∧ Below w.heap.size w wr)
    (fun i _ => l.length - (intOf i).toNat)
  case atStart => exact ⟨0, Nat.zero_le _, rfl, by rw [madeCells_all _ (.int .i64 0) (by decide) (fun i hi => by match i, hi with | 0, _ => rfl | 1, _ => rfl)] at hown0; simpa [filledP, flatP] using hown0, hb0⟩
  case round =>
    obtain ⟨k, hkl, rfl, hown, hb⟩ := hrel
    clear hown0 hb0
    by_cases hlt : k < l.length
    · have hal := ha (by omega)
      subst hal
      have c0 := hk k hlt
      have c1 := hv k hlt
      have hbl := cell_lt c0
      have d0 : wr.cell? ⟨b, off + k * 2, none⟩ = some (.int .i64 (kOf l k)) := (hb.cell (by exact hbl)).trans c0
      have d1 : wr.cell? ⟨b, off + k * 2 + 1, none⟩ = some (.int .i64 (vOf l k)) := (hb.cell (by exact hbl)).trans c1
      clear hk hv c0 c1 ha
      go_wp2_with fail
      refine (toPair_any _ _ _).mono ?_
      rintro e w1 ⟨rfl, hb1⟩
      have own1 := owns_below hown hb1
      have e0 := (own1.cellAt (k * 2) (by omega)).trans (filledP_zero l k hlt).1
      have e1 := (own1.cellAt (k * 2 + 1) (by omega)).trans (filledP_zero l k hlt).2
      have f0 := own1.frozenAt (k * 2)
      have f1 := own1.frozenAt (k * 2 + 1)
      have st := (own1.stored (k * 2) (.int .i64 (kOf l k))).1
      have st2 := (st.stored (k * 2 + 1) (.int .i64 (vOf l k))).1
      rw [filledP_step l k hlt] at st2
      have hb2 : Below w.heap.size w w1 := hb.trans (hb1.mono hb.size)
      clear st hown hb1 d0 d1 own1
      have ST : Hid (((w1.setCell ⟨w.heap.size, k * 2, none⟩ (.int .i64 (kOf l k))).setCell ⟨w.heap.size, k * 2 + 1, none⟩ (.int .i64 (vOf l k))).ownsRow w.heap.size 53 2 (.slice (some ⟨w.heap.size, 0, none⟩) l.length l.length) l.length (filledP l (k + 1))) := st2
      clear st2
      go_wp2
      go_roundw
      case rel => exact ⟨k + 1, by omega, by go_num, ST.out, (hb2.setCell (Nat.le_refl _) _).setCell (Nat.le_refl _) _⟩
      case measure => simp [intOf]; omega
    · go_wp2
      go_ret
      have hkk : k = l.length := by omega
      subst hkk
      rw [filledP_full] at hown
      exact ⟨_, rfl, hown, hb⟩

set_option maxHeartbeats 1000000 in
theorem eqPairS_any (v1 v2 : Value) (l1 l2 : List (Int × Int)) (w : World) (h1 : Row w v1 l1.length (flatP l1)) (h2 : Row w v2 l2.length (flatP l2)) :
    Calls Tryz.prog 34 #[v1, v2] w fun e w' => e = .returned (.bool (decide (l1 = l2))) ∧ Below w.heap.size w w' := by
  obtain ⟨a, b, off, cap, rfl, hcap, hmax, ha, hk, hv⟩ := h1.pairs
  obtain ⟨a2, b2, off2, cap2, rfl, hcap2, hmax2, ha2, hk2, hv2⟩ := h2.pairs
  unfold maxLen at hmax hmax2
  by_cases hl : l1.length = l2.length
  · have hne : ((l1.length : Int) != (l2.length : Int)) = false := by rw [bne_eq_false_iff_eq]; omega
    have HL : Hid (l1.length = l2.length) := hl
    have hl2 : l1.length ≤ l2.length := by omega
    clear hl
    go_enter Tryz.func34, Tryz.ntmps34
    go_wp2
    go_loopw [5] (fun i wr => ∃ k : Nat, k ≤ l1.length ∧ i = .int .i64 k ∧ (∀ i, i < k → kOf l1 i = kOf l2 i ∧ vOf l1 i = vOf l2 i) ∧ Below w.heap.size w wr)
      (fun i _ => l1.length - (intOf i).toNat)
    case atStart => exact ⟨0, Nat.zero_le _, rfl, fun i hi => absurd hi (Nat.not_lt_zero _), Below.refl _ _⟩
    case round =>
      obtain ⟨k, hkl, rfl, hall, hb⟩ := hrel
      have ALL : Hid (∀ i, i < k → kOf l1 i = kOf l2 i ∧ vOf l1 i = vOf l2 i) := hall
      clear hall
      by_cases hlt : k < l1.length
      · have hal := ha (by omega)
        subst hal
        have hal2 := ha2 (by omega)
        subst hal2
        have hlt2 : k < l2.length := by omega
        have d0 : wr.cell? ⟨b, off + k * 2, none⟩ = some (.int .i64 (kOf l1 k)) := (hb.cell (by exact cell_lt (hk k hlt))).trans (hk k hlt)
        have d1 : wr.cell? ⟨b, off + k * 2 + 1, none⟩ = some (.int .i64 (vOf l1 k)) := (hb.cell (by exact cell_lt (hv k hlt))).trans (hv k hlt)
        have d2 : wr.cell? ⟨b2, off2 + k * 2, none⟩ = some (.int .i64 (kOf l2 k)) := (hb.cell (by exact cell_lt (hk2 k (by omega)))).trans (hk2 k (by omega))
        have d3 : wr.cell? ⟨b2, off2 + k * 2 + 1, none⟩ = some (.int .i64 (vOf l2 k)) := (hb.cell (by exact cell_lt (hv2 k (by omega)))).trans (hv2 k (by omega))
        clear hk hv ha hk2 hv2 ha2
        go_wp2_with fail
        cases hq : eqPairB (kOf l1 k) (vOf l1 k) (kOf l2 k) (vOf l2 k)
        · have NE : Hid (decide (l1 = l2) = false) := decide_eq_false (ne_of_eqPairB hq)
          go_region_with (go_at_call 50; refine (eqPair_any _ _ _ _ _).mono ?_; rintro e w1 ⟨rfl, hb1⟩)
          all_goals
            go_wp2
            go_ret
            exact ⟨ret_bool NE.out.symm, hb.drew.trans (hb1.mono hb.size)⟩
        · have EQ : Hid (kOf l1 k = kOf l2 k ∧ vOf l1 k = vOf l2 k) := eqPairB_true hq
          go_region_with (go_at_call 50; refine (eqPair_any _ _ _ _ _).mono ?_; rintro e w1 ⟨rfl, hb1⟩)
          all_goals
            go_wp2
            go_roundw
            case rel => exact ⟨k + 1, by omega, by go_num, fun i hi => if h : i < k then ALL.out i h else by rw [show i = k by omega]; exact EQ.out, hb.drew.trans (hb1.mono hb.size)⟩
            case measure => simp [intOf]; omega
      · go_wp2
        go_ret
        refine ⟨ret_bool ?_, hb⟩
        symm
        rw [decide_eq_true_iff]
        exact ext_of HL.out (fun i hi => ALL.out i (by omega))
  · have hne : ((l1.length : Int) != (l2.length : Int)) = true := by rw [bne_iff_ne]; omega
    go_enter Tryz.func34, Tryz.ntmps34
    go_wp2
    go_ret
    refine ⟨ret_bool ?_, Below.refl _ _⟩
    symm
    rw [decide_eq_false_iff_not]
    intro h; exact hl (by rw [h])

end Go.Proofs.YtccdleafkhnfmaaGreat

namespace Go.Proofs
open Go.Shelf
def Tryz.laysNm237_ren : Go.Shelf.Ren := ⟨fun | 37 => 99 | n => n, fun | 3 => 3 | 4 => 4 | n => n, fun | n => n⟩
theorem Tryz.laysNm237 : Go.Proofs.Lays2.n37 Tryz.prog Tryz.laysNm237_ren := {
  mixed := by kernel_rfl
  f37 := Tryz.func99.trans (congrArg some (by kernel_rfl))
  t3 := Tryz.underlying3
  a3 := Tryz.isAgg3
  z3 := Tryz.sizeOf3
  v3 := Tryz.zeroValue3
  t4 := Tryz.underlying4
  a4 := Tryz.isAgg4
  z4 := Tryz.sizeOf4
  v4 := Tryz.zeroValue4 }
open Go.RowKit Go.Lib in
theorem Tryz.cmp_isNaN_int2 (x : Int) (w : World) :
    Calls Tryz.prog 99 #[.int .i64 x] w fun e w' => e = .returned (.bool false) ∧ w' = w := Any.cmp_isNaN_int2 Tryz.laysNm237 x w
def Tryz.laysNm232_ren : Go.Shelf.Ren := ⟨fun | 32 => 96 | n => n, fun | 3 => 3 | 4 => 4 | n => n, fun | n => n⟩
theorem Tryz.laysNm232 : Go.Proofs.Lays2.n32 Tryz.prog Tryz.laysNm232_ren := {
  mixed := by kernel_rfl
  f32 := Tryz.func96.trans (congrArg some (by kernel_rfl))
  t3 := Tryz.underlying3
  a3 := Tryz.isAgg3
  z3 := Tryz.sizeOf3
  v3 := Tryz.zeroValue3
  t4 := Tryz.underlying4
  a4 := Tryz.isAgg4
  z4 := Tryz.sizeOf4
  v4 := Tryz.zeroValue4 }
open Go.RowKit Go.Lib in
theorem Tryz.slices_isNaN_int2 (x : Int) (w : World) :
    Calls Tryz.prog 96 #[.int .i64 x] w fun e w' => e = .returned (.bool false) ∧ w' = w := Any.slices_isNaN_int2 Tryz.laysNm232 x w
def Tryz.laysNm231_ren : Go.Shelf.Ren := ⟨fun | 31 => 95 | 37 => 99 | n => n, fun | 3 => 3 | 4 => 4 | n => n, fun | n => n⟩
theorem Tryz.laysNm231 : Go.Proofs.Lays2.n31 Tryz.prog Tryz.laysNm231_ren := {
  mixed := by kernel_rfl
  f31 := Tryz.func95.trans (congrArg some (by kernel_rfl))
  f37 := Tryz.func99.trans (congrArg some (by kernel_rfl))
  t3 := Tryz.underlying3
  a3 := Tryz.isAgg3
  z3 := Tryz.sizeOf3
  v3 := Tryz.zeroValue3
  t4 := Tryz.underlying4
  a4 := Tryz.isAgg4
  z4 := Tryz.sizeOf4
  v4 := Tryz.zeroValue4 }
open Go.RowKit Go.Lib in
theorem Tryz.cmp_Less_int2 (x y : Int) (w : World) :
    Calls Tryz.prog 95 #[.int .i64 x, .int .i64 y] w fun e w' => e = .returned (.bool (decide (x < y))) ∧ w' = w := Any.cmp_Less_int2 Tryz.laysNm231 x y w
def Tryz.laysNm225_ren : Go.Shelf.Ren := ⟨fun | 25 => 92 | 31 => 95 | 32 => 96 | 37 => 99 | n => n, fun | 22 => 23 | 3 => 3 | 4 => 4 | 40 => 137 | 0 => 0 | n => n, fun | n => n⟩
theorem Tryz.laysNm225 : Go.Proofs.Lays2.n25 Tryz.prog Tryz.laysNm225_ren := {
  mixed := by kernel_rfl
  f25 := Tryz.func92.trans (congrArg some (by kernel_rfl))
  f31 := Tryz.func95.trans (congrArg some (by kernel_rfl))
  f32 := Tryz.func96.trans (congrArg some (by kernel_rfl))
  f37 := Tryz.func99.trans (congrArg some (by kernel_rfl))
  t0 := Tryz.underlying0
  a0 := Tryz.isAgg0
  z0 := Tryz.sizeOf0
  v0 := Tryz.zeroValue0
  t3 := Tryz.underlying3
  a3 := Tryz.isAgg3
  z3 := Tryz.sizeOf3
  v3 := Tryz.zeroValue3
  t4 := Tryz.underlying4
  a4 := Tryz.isAgg4
  z4 := Tryz.sizeOf4
  v4 := Tryz.zeroValue4
  t22 := Tryz.underlying23
  a22 := Tryz.isAgg23
  z22 := Tryz.sizeOf23
  v22 := Tryz.zeroValue23
  t40 := Tryz.underlying137
  a40 := Tryz.isAgg137
  z40 := Tryz.sizeOf137
  v40 := Tryz.zeroValue137 }
open Go.RowKit Go.Lib in
theorem Tryz.slices_BinarySearch_int (b off n c : Nat) (zs : List Int) (x : Int) (w : World) (hz : n ≤ zs.length) (hbig : n < 4611686018427387904) (hc : ∀ j, j < zs.length → w.cell? ⟨b, off + j, none⟩ = some (.int .i64 (zs.getD j 0))) (hs : (zs.take n).Pairwise (· ≤ ·)) :
    Calls Tryz.prog 92 #[.slice (some ⟨b, off, none⟩) n c, .int .i64 x] w fun e w' => e = .returned (.tuple #[.int .i64 ((zs.take n).countP (· < x) : Nat), .bool ((zs.take n).contains x)]) ∧ ∃ q, w' = w.drewN q := Any.slices_BinarySearch_int Tryz.laysNm225 b off n c zs x w hz hbig hc hs
def Tryz.laysNm223_ren : Go.Shelf.Ren := ⟨fun | 23 => 94 | n => n, fun | 22 => 23 | 3 => 3 | 4 => 4 | 0 => 0 | n => n, fun | n => n⟩
theorem Tryz.laysNm223 : Go.Proofs.Lays2.n23 Tryz.prog Tryz.laysNm223_ren := {
  mixed := by kernel_rfl
  f23 := Tryz.func94.trans (congrArg some (by kernel_rfl))
  t0 := Tryz.underlying0
  a0 := Tryz.isAgg0
  z0 := Tryz.sizeOf0
  v0 := Tryz.zeroValue0
  t3 := Tryz.underlying3
  a3 := Tryz.isAgg3
  z3 := Tryz.sizeOf3
  v3 := Tryz.zeroValue3
  t4 := Tryz.underlying4
  a4 := Tryz.isAgg4
  z4 := Tryz.sizeOf4
  v4 := Tryz.zeroValue4
  t22 := Tryz.underlying23
  a22 := Tryz.isAgg23
  z22 := Tryz.sizeOf23
  v22 := Tryz.zeroValue23
  i3 := by kernel_rfl }
open Go.RowKit Go.Lib Go.Sort in
theorem Tryz.slices_Delete_int_arr (blk off cap i j : Nat) (d : Array Int) (w : World) (hH : Holds encI w blk off d) (hcap : d.size ≤ cap) (hm : cap ≤ 9223372036854775807) (hij : i ≤ j) (hj : j ≤ d.size) :
    Calls Tryz.prog 94 #[.slice (some ⟨blk, off, none⟩) d.size cap, .int .i64 i, .int .i64 j] w fun e w' => e = .returned (.slice (some ⟨blk, off, none⟩) (d.size - (j - i)) cap) ∧ ∃ q, w' = putRow encI (Sort.ahead w q) blk off (d.toList.take i ++ d.toList.drop j ++ List.replicate (j - i) 0).toArray := Any.slices_Delete_int_arr Tryz.laysNm223 blk off cap i j d w hH hcap hm hij hj
open Go.RowKit Go.Lib Go.Sort in
theorem Tryz.slices_Delete_int (blk off cap i j : Nat) (zs : List Int) (w : World) (hH : Holds (Value.int .i64) w blk off zs.toArray) (hcap : zs.length ≤ cap) (hm : cap ≤ 9223372036854775807) (hij : i ≤ j) (hj : j ≤ zs.length) :
    Calls Tryz.prog 94 #[.slice (some ⟨blk, off, none⟩) zs.length cap, .int .i64 i, .int .i64 j] w fun e w' => e = .returned (.slice (some ⟨blk, off, none⟩) (zs.length - (j - i)) cap) ∧ ∃ q, w' = putRow (Value.int .i64) (Sort.ahead w q) blk off (zs.take i ++ zs.drop j ++ List.replicate (j - i) 0).toArray := Any.slices_Delete_int Tryz.laysNm223 blk off cap i j zs w hH hcap hm hij hj
open Go.RowKit Go.Lib in
theorem Tryz.slices_BinarySearch_int_empty (a : Option Addr) (c : Nat) (x : Int) (w : World) :
    Calls Tryz.prog 92 #[.slice a 0 c, .int .i64 x] w fun e w' => e = .returned (.tuple #[.int .i64 0, .bool false]) ∧ w' = w := Any.slices_BinarySearch_int_empty Tryz.laysNm225 a c x w
open Go.RowKit Go.Lib in
theorem Tryz.slices_Delete_int_empty (a : Option Addr) (c : Nat) (w : World) :
    Calls Tryz.prog 94 #[.slice a 0 c, .int .i64 0, .int .i64 0] w fun e w' => e = .returned (.slice a 0 c) ∧ w' = w := Any.slices_Delete_int_empty Tryz.laysNm223 a c w
def Tryz.laysNm221_ren : Go.Shelf.Ren := ⟨fun | 21 => 93 | 27 => 97 | 28 => 98 | 35 => 100 | 39 => 101 | n => n, fun | 22 => 23 | 3 => 3 | 4 => 4 | 0 => 0 | n => n, fun | n => n⟩
theorem Tryz.laysNm221 : Go.Proofs.Lays2.n21 Tryz.prog Tryz.laysNm221_ren := {
  mixed := by kernel_rfl
  f21 := Tryz.func93.trans (congrArg some (by kernel_rfl))
  f27 := Tryz.func97.trans (congrArg some (by kernel_rfl))
  f28 := Tryz.func98.trans (congrArg some (by kernel_rfl))
  f35 := Tryz.func100.trans (congrArg some (by kernel_rfl))
  f39 := Tryz.func101.trans (congrArg some (by kernel_rfl))
  t0 := Tryz.underlying0
  a0 := Tryz.isAgg0
  z0 := Tryz.sizeOf0
  v0 := Tryz.zeroValue0
  t3 := Tryz.underlying3
  a3 := Tryz.isAgg3
  z3 := Tryz.sizeOf3
  v3 := Tryz.zeroValue3
  t4 := Tryz.underlying4
  a4 := Tryz.isAgg4
  z4 := Tryz.sizeOf4
  v4 := Tryz.zeroValue4
  t22 := Tryz.underlying23
  a22 := Tryz.isAgg23
  z22 := Tryz.sizeOf23
  v22 := Tryz.zeroValue23
  i3 := by kernel_rfl }
open Go.RowKit Go.Lib in
theorem Tryz.slices_Insert_int_shift (b off n c i vb voff m vc : Nat) (cs vs : List Value) (w : World) (hi : i < n) (hm : 0 < m) (hroom : n + m ≤ c) (hc63 : c ≤ 9223372036854775807) (hvb : vb ≠ b)
    (hcl : cs.length = n) (hvl : vs.length = m)
    (hcs : ∀ j v, cs[j]? = some v → w.cell? ⟨b, off + j, none⟩ = some v) (hsp : ∀ j, j < n + m → (w.cell? ⟨b, off + j, none⟩).isSome = true) (hfz : ∀ j, j < n + m → w.frozen? ⟨b, off + j, none⟩ = false)
    (hvs : ∀ j v, vs[j]? = some v → w.cell? ⟨vb, voff + j, none⟩ = some v) (h1c : ∀ v ∈ cs, v.oneCell' = true) (h1v : ∀ v ∈ vs, v.oneCell' = true)
    (tA tB : TypeId) (kA kB : Nat) (hsa : w.shape? vb = some (tA, kA)) (hsb : w.shape? b = some (tB, kB)) (hkB : kB ≠ 0) (hfa : w.frozen? ⟨vb, voff, none⟩ = false) (hfe : w.frozen? ⟨vb, kA, none⟩ = false) :
    Calls Tryz.prog 93 #[.slice (some ⟨b, off, none⟩) n c, .int .i64 i, .slice (some ⟨vb, voff, none⟩) m vc] w fun e w' =>
      e = .returned (.slice (some ⟨b, off, none⟩) (n + m) c) ∧ w' = (w.drew.setCells b (off + (i + m)) (cs.drop i)).setCells b (off + i) vs := Any2.slices_Insert_int_shift Tryz.laysNm221 b off n c i vb voff m vc cs vs w hi hm hroom hc63 hvb hcl hvl hcs hsp hfz hvs h1c h1v tA tB kA kB hsa hsb hkB hfa hfe
open Go.RowKit Go.Lib in
theorem Tryz.slices_Insert_int_end_room (b off n c vb voff m vc : Nat) (vs : List Value) (w : World) (hm : 0 < m) (hroom : n + m ≤ c) (hc63 : c ≤ 9223372036854775807)
    (hvl : vs.length = m) (hsp : ∀ j, j < m → (w.cell? ⟨b, off + n + j, none⟩).isSome = true) (hfz : ∀ j, j < m → w.frozen? ⟨b, off + n + j, none⟩ = false)
    (hvs : ∀ j v, vs[j]? = some v → w.cell? ⟨vb, voff + j, none⟩ = some v) (h1v : ∀ v ∈ vs, v.oneCell' = true) :
    Calls Tryz.prog 93 #[.slice (some ⟨b, off, none⟩) n c, .int .i64 n, .slice (some ⟨vb, voff, none⟩) m vc] w fun e w' =>
      e = .returned (.slice (some ⟨b, off, none⟩) (n + m) c) ∧ w' = w.setCells b (off + n) vs := Any2.slices_Insert_int_end_room Tryz.laysNm221 b off n c vb voff m vc vs w hm hroom hc63 hvl hsp hfz hvs h1v
open Go.RowKit Go.Lib in
theorem Tryz.slices_Insert_int_end_grow (base : Option Addr) (n c vb voff m vc : Nat) (cs vs : List Value) (w : World) (hm : 0 < m) (hnc : n ≤ c) (hroom : c < n + m) (hbig : (n + m) * 8 ≤ 140737488355328)
    (hcl : cs.length = n) (hvl : vs.length = m) (hnil : base = none → n = 0)
    (hcs : ∀ a, base = some a → ∀ j v, cs[j]? = some v → w.cell? (a.add j) = some v)
    (hvs : ∀ j v, vs[j]? = some v → w.cell? ⟨vb, voff + j, none⟩ = some v) (h1v : ∀ v ∈ vs, v.oneCell' = true) :
    Calls Tryz.prog 93 #[.slice base n c, .int .i64 n, .slice (some ⟨vb, voff, none⟩) m vc] w fun e w' =>
      e = .returned (.slice (some ⟨w.heap.size, 0, none⟩) (n + m) (grownCap w (n + m) c 3)) ∧
      w' = w.drew.alloc (.cells ((cs ++ vs).toArray ++ Builtin.zeroCells (Value.int .i64 0).cells (grownCap w (n + m) c 3 - (n + m))) 3) := Any2.slices_Insert_int_end_grow Tryz.laysNm221 base n c vb voff m vc cs vs w hm hnc hroom hbig hcl hvl hnil hcs hvs h1v
open Go.RowKit Go.Lib in
theorem Tryz.slices_Insert_int_grow (b off n c i vb voff m vc : Nat) (cs vs : List Value) (w : World) (hi : i < n) (hm : 0 < m) (hnc : n ≤ c) (hroom : c < n + m) (hbig : (n + m) * 8 ≤ 140737488355328)
    (hcl : cs.length = n) (hvl : vs.length = m)
    (hcs : ∀ j v, cs[j]? = some v → w.cell? ⟨b, off + j, none⟩ = some v)
    (hvs : ∀ j v, vs[j]? = some v → w.cell? ⟨vb, voff + j, none⟩ = some v) (h1c : ∀ v ∈ cs, v.oneCell' = true) (h1v : ∀ v ∈ vs, v.oneCell' = true) :
    Calls Tryz.prog 93 #[.slice (some ⟨b, off, none⟩) n c, .int .i64 i, .slice (some ⟨vb, voff, none⟩) m vc] w fun e w' =>
      e = .returned (.slice (some ⟨w.heap.size, 0, none⟩) (n + m) (grownCap w (n + m) c 3)) ∧
      w' = (((w.alloc (.cells ((cs.take i).toArray ++ Builtin.zeroCells (Value.int .i64 0).cells (n + m - i) ++ Builtin.zeroCells (Value.int .i64 0).cells (grownCap w (n + m) c 3 - (n + m))) 3)).drew.setCells w.heap.size i vs).drew).setCells w.heap.size (i + m) (cs.drop i) := Any2.slices_Insert_int_grow Tryz.laysNm221 b off n c i vb voff m vc cs vs w hi hm hnc hroom hbig hcl hvl hcs hvs h1c h1v
end Go.Proofs

namespace Go.Proofs.YtccdleafkhnfmaaGreat
open Go.RowKit

/-- w' IS w WITH NEW BLOCKS, AND WITH WRITES TO THE BLOCKS OF F ALONE. -/
structure Chg (F : Nat → Prop) (w w' : World) : Prop where
  os : w'.os = w.os
  tape : w'.tape = w.tape
  output : w'.output = w.output
  size : w.heap.size ≤ w'.heap.size
  block : ∀ k, k < w.heap.size → ¬ F k → w'.heap[k]? = w.heap[k]?

theorem Chg.refl (F : Nat → Prop) (w : World) : Chg F w w := ⟨rfl, rfl, rfl, Nat.le_refl _, fun _ _ _ => rfl⟩
theorem Chg.trans {F G : Nat → Prop} {a b c : World} (h : Chg F a b) (k : Chg G b c) (hG : ∀ g, g < a.heap.size → G g → F g) : Chg F a c :=
  ⟨k.os.trans h.os, k.tape.trans h.tape, k.output.trans h.output, Nat.le_trans h.size k.size,
    fun g hg hn => (k.block g (Nat.lt_of_lt_of_le hg h.size) (fun e => hn (hG g hg e))).trans (h.block g hg hn)⟩
theorem Chg.mono {F G : Nat → Prop} {a b : World} (h : Chg F a b) (hG : ∀ g, g < a.heap.size → F g → G g) : Chg G a b :=
  ⟨h.os, h.tape, h.output, h.size, fun g hg hn => h.block g hg (fun e => hn (hG g hg e))⟩
theorem Chg.of_below {F : Nat → Prop} {a b : World} (h : Below a.heap.size a b) : Chg F a b := ⟨h.os, h.tape, h.output, h.size, fun g hg _ => h.block g hg⟩
theorem Chg.below {F : Nat → Prop} {a b : World} {B : Nat} (h : Chg F a b) (hF : ∀ g, g < a.heap.size → F g → B ≤ g) (hB : B ≤ a.heap.size) : Below B a b :=
  ⟨h.os, h.tape, h.output, h.size, fun g hg => h.block g (Nat.lt_of_lt_of_le hg hB) (fun e => by have := hF g (Nat.lt_of_lt_of_le hg hB) e; omega)⟩
theorem Chg.alloc {F : Nat → Prop} {a b : World} (h : Chg F a b) (o : Obj) : Chg F a (b.alloc o) :=
  h.trans (Chg.of_below (F := F) ((Below.refl _ _).alloc (Nat.le_refl _) o)) (fun _ _ e => e)
theorem Chg.drew {F : Nat → Prop} {a b : World} (h : Chg F a b) : Chg F a b.drew := ⟨h.os, h.tape, h.output, h.size, h.block⟩
theorem Chg.drewN {F : Nat → Prop} {a b : World} (h : Chg F a b) (n : Nat) : Chg F a (b.drewN n) :=
  h.trans (Chg.of_below (F := F) (below_drewN (Below.refl _ _) n)) (fun _ _ e => e)
theorem size_setCells' (g : Nat) : ∀ (vs : List Value) (o : Nat) (w : World), (w.setCells g o vs).heap.size = w.heap.size
  | [], _, _ => rfl
  | v :: r, o, w => by rw [World.setCells, size_setCells' g r]; simp
theorem Chg.setCell {F : Nat → Prop} {a b : World} (h : Chg F a b) {p : Addr} (hp : p.block < a.heap.size → F p.block) (u : Value) : Chg F a (b.setCell p u) :=
  ⟨h.os, h.tape, h.output, by simpa using h.size, fun k hk hn => (heap_setCell_other _ _ _ _ (fun e => hn (by subst e; exact hp hk))).trans (h.block k hk hn)⟩
theorem Chg.setAt {F : Nat → Prop} {a b : World} (h : Chg F a b) (g j : Nat) (hg : F g) (u : Value) : Chg F a (b.setCell ⟨g, j, none⟩ u) := h.setCell (p := ⟨g, j, none⟩) (fun _ => hg) u
theorem Chg.setCells {F : Nat → Prop} {a : World} {g : Nat} (hp : g < a.heap.size → F g) : ∀ (vs : List Value) (o : Nat) (b : World), Chg F a b → Chg F a (b.setCells g o vs)
  | [], _, _, h => h
  | v :: r, o, _, h => Chg.setCells hp r (o + 1) _ (h.setCell (p := ⟨g, o, none⟩) hp v)

theorem owns_chg {F : Nat → Prop} {w w' : World} {base e size n : Nat} {v : Value} {xs : List Value} (h : w.ownsRow base e size v n xs) (hc : Chg F w w') (hF : ∀ g, v.ownBlock = some g → ¬ F g) : w'.ownsRow base e size v n xs := by
  obtain ⟨hl, h | ⟨g, cap, cur, rfl, hg, hh, hn, hcap, hsz, htake⟩⟩ := h
  · exact ⟨hl, .inl h⟩
  · exact ⟨hl, .inr ⟨g, cap, cur, rfl, hg, (hc.block g (Array.getElem?_eq_some_iff.1 hh).1 (hF g rfl)).trans hh, hn, hcap, hsz, htake⟩⟩
theorem row_chg {F : Nat → Prop} {w w' : World} {b : Nat} {o : Obj} (h : w.heap[b]? = some o) (hc : Chg F w w') (hF : ¬ F b) : w'.heap[b]? = some o :=
  (hc.block b (Array.getElem?_eq_some_iff.1 h).1 hF).trans h

/-- an array with a stretch written over -/
def spl (cur : Array Value) : Nat → List Value → Array Value
  | _, [] => cur
  | o, v :: r => spl (cur.setIfInBounds o v) (o + 1) r
theorem spl_size (cur : Array Value) : ∀ (vs : List Value) (o : Nat), (spl cur o vs).size = cur.size := by
  intro vs
  induction vs generalizing cur with
  | nil => intro o; rfl
  | cons v r ih => intro o; rw [spl, ih]; simp
theorem spl_toList : ∀ (vs : List Value) (cur : Array Value) (o : Nat), o + vs.length ≤ cur.size → (spl cur o vs).toList = cur.toList.take o ++ vs ++ cur.toList.drop (o + vs.length)
  | [], cur, o, h => by simp [spl]
  | v :: r, cur, o, h => by
    simp only [List.length_cons] at h
    rw [spl, spl_toList r _ (o + 1) (by simp; omega)]
    have hlt : o < cur.toList.length := by simp; omega
    have h1 : (cur.setIfInBounds o v).toList = cur.toList.set o v := Array.toList_setIfInBounds ..
    rw [h1, List.take_set, List.drop_set, if_pos (by omega), List.take_succ_eq_append_getElem hlt]
    rw [List.set_append_right _ _ (by simp; omega)]
    simp only [List.length_take, List.length_cons]
    rw [show o - min o cur.toList.length = 0 by omega, show o + 1 + r.length = o + (r.length + 1) by omega]
    simp
theorem heap_setCells_same (g : Nat) (t : TypeId) : ∀ (vs : List Value) (o : Nat) (w : World) (cur : Array Value), w.heap[g]? = some (.cells cur t (0, 0)) → (w.setCells g o vs).heap[g]? = some (.cells (spl cur o vs) t (0, 0))
  | [], _, _, _, h => h
  | v :: r, o, w, cur, h => by
    rw [World.setCells, spl]
    exact heap_setCells_same g t r (o + 1) _ _ (heap_setCell_same w g o cur t v h)

theorem ints_one (zs : List Int) : ∀ v ∈ zs.map (Value.int .i64), v.oneCell' = true := by
  intro v hv
  obtain ⟨z, _, rfl⟩ := List.mem_map.1 hv
  rfl

theorem cell_of_cells {w : World} {g j : Nat} {cur : Array Value} {t : TypeId} (h : w.heap[g]? = some (.cells cur t (0, 0))) : w.cell? ⟨g, j, none⟩ = cur[j]? := cell_of_row w g j cur t (0, 0) h
theorem frozen_of_cells {w : World} {g j : Nat} {cur : Array Value} {t : TypeId} (h : w.heap[g]? = some (.cells cur t (0, 0))) : w.frozen? ⟨g, j, none⟩ = false := frozen_of_row w g j cur t h

theorem owns_of {w : World} {g n cap : Nat} {t : TypeId} {cur : Array Value} {xs : List Value} (hh : w.heap[g]? = some (.cells cur t (0, 0))) (hn : n ≤ cap) (hcap : cap ≤ maxLen) (hs : cur.size = cap) (ht : cur.toList.take n = xs) (hl : xs.length = n) :
    w.ownsRow 0 t 1 (.slice (some ⟨g, 0, none⟩) n cap) n xs :=
  ⟨by omega, .inr ⟨g, cap, cur, rfl, Nat.zero_le _, hh, hn, hcap, by omega, by rw [Nat.mul_one]; exact ht⟩⟩

theorem take_app {α : Type} {A B : List α} {n : Nat} (h : A.length = n) : (A ++ B).take n = A := by subst h; simp
theorem shift_list {α : Type} {cur zs R : List α} {i n : Nat} (x : α) (hz : cur.take n = zs) (hl : zs.length = n) (hi : i < n) (hc : n + 1 ≤ cur.length) :
    ((cur.take (i + 1) ++ zs.drop i ++ R).take i ++ [x] ++ (cur.take (i + 1) ++ zs.drop i ++ R).drop (i + 1)).take (n + 1) = zs.take i ++ x :: zs.drop i := by
  have h1 : (cur.take (i + 1)).length = i + 1 := by simp; omega
  have e1 : (cur.take (i + 1) ++ zs.drop i ++ R).take i = zs.take i := by
    rw [List.append_assoc, List.take_append_of_le_length (by omega), List.take_take, ← hz, List.take_take, Nat.min_eq_left (by omega), Nat.min_eq_left (by omega)]
  have e2 : (cur.take (i + 1) ++ zs.drop i ++ R).drop (i + 1) = zs.drop i ++ R := by
    rw [List.append_assoc, List.drop_left' h1]
  rw [e1, e2, ← List.append_assoc, take_app (by simp; omega)]
  simp
theorem grow_list {α : Type} {A zs R S : List α} {i n : Nat} (x : α) (ha : A = zs.take i) (hl : zs.length = n) (hi : i < n) :
    ((A ++ [x] ++ S).take (i + 1) ++ zs.drop i ++ R).take (n + 1) = zs.take i ++ x :: zs.drop i := by
  have h1 : (A ++ [x]).length = i + 1 := by rw [ha]; simp; omega
  rw [take_app h1, take_app (by simp only [List.length_append, h1]; simp; omega), ha]
  simp

theorem zeroCells_size (m : Nat) : (Builtin.zeroCells (Value.int .i64 0).cells m).size = m := by
  rw [size_zeroCells]; simp [Value.cells]

set_option maxHeartbeats 1000000 in
theorem insert_own (v : Value) (zs : List Int) (i : Nat) (x : Int) (vb : Nat) (w : World) (ho : w.ownsRow 0 3 1 v zs.length (zs.map (Value.int .i64)))
    (hvb : w.heap[vb]? = some (.cells #[.int .i64 x] 3 (0, 0))) (hne : v.ownBlock ≠ some vb) (hi : i ≤ zs.length) (hbig : zs.length ≤ 1099511627776) :
    Calls Tryz.prog 93 #[v, .int .i64 i, .slice (some ⟨vb, 0, none⟩) 1 1] w fun e w' =>
      ∃ v', e = .returned v' ∧ w'.ownsRow 0 3 1 v' (zs.length + 1) ((zs.take i ++ x :: zs.drop i).map (Value.int .i64)) ∧ Chg (fun g => v.ownBlock = some g) w w' ∧ (v'.ownBlock = v.ownBlock ∨ v'.ownBlock = some w.heap.size) := by
  have hvs : ∀ (j : Nat) (u : Value), [Value.int .i64 x][j]? = some u → w.cell? ⟨vb, 0 + j, none⟩ = some u := by
    intro j u hj
    rw [Nat.zero_add, cell_of_cells hvb]
    simpa using hj
  have h1v : ∀ u ∈ [Value.int .i64 x], u.oneCell' = true := by intro u hu; simp at hu; subst hu; rfl
  obtain ⟨hl, h | ⟨g, cap, cur, rfl, hg, hh, hn, hcap, hsz, htake⟩⟩ := ho
  · obtain ⟨rfl, h0⟩ := h
    have hz : zs = [] := List.length_eq_zero_iff.1 h0
    subst hz
    have hi0 : i = 0 := by simpa using hi
    subst hi0
    refine (Tryz.slices_Insert_int_end_grow none 0 0 vb 0 1 1 [] [.int .i64 x] w (by decide) (Nat.le_refl _) (by decide) (by decide) rfl rfl (fun _ => rfl) (fun a ha => by cases ha) hvs h1v).mono ?_
    rintro e w' ⟨rfl, rfl⟩
    have hge := grownCap_ge w (0 + 1) 0 3
    exact ⟨_, rfl, owns_of (heap_alloc_new w.drew _) hge (grownCap_le_maxLen _ _ _ _ (by decide)) (by rw [Array.size_append, zeroCells_size]; show 1 + (grownCap w (0 + 1) 0 3 - (0 + 1)) = grownCap w (0 + 1) 0 3; omega) (by simp) (by simp), (Chg.refl _ _).drew.alloc _, Or.inr rfl⟩
  · simp only [Nat.mul_one] at hsz htake
    have hcs : ∀ (j : Nat) (u : Value), (zs.map (Value.int .i64))[j]? = some u → w.cell? ⟨g, 0 + j, none⟩ = some u := by
      intro j u hj
      rw [Nat.zero_add, cell_of_cells hh, ← Array.getElem?_toList]
      rw [← htake] at hj
      have hjl := (List.getElem?_eq_some_iff.1 hj).1
      rw [List.getElem?_take, if_pos (by simp at hjl; omega)] at hj
      exact hj
    have hgv : vb ≠ g := fun e => hne (by rw [e]; rfl)
    unfold maxLen at hcap
    by_cases hin : i = zs.length
    · subst hin
      by_cases hroom : zs.length + 1 ≤ cap
      · refine (Tryz.slices_Insert_int_end_room g 0 zs.length cap vb 0 1 1 [.int .i64 x] w (by decide) hroom (by omega) rfl (fun j hj => by rw [cell_of_cells hh]; simp; omega) (fun j hj => frozen_of_cells hh) hvs h1v).mono ?_
        rintro e w' ⟨rfl, rfl⟩
        refine ⟨_, rfl, owns_of (heap_setCells_same g 3 _ _ w cur hh) hroom (by unfold maxLen; omega) (by rw [spl_size]; omega) ?_ (by simp), Chg.setCells (F := fun k => (Value.slice (some ⟨g, 0, none⟩) zs.length cap).ownBlock = some k) (fun _ => rfl) _ _ _ (Chg.refl _ _), Or.inl rfl⟩
        rw [spl_toList _ _ _ (by simp; omega), Nat.zero_add, htake, take_app (by simp)]
        simp
      · refine (Tryz.slices_Insert_int_end_grow (some ⟨g, 0, none⟩) zs.length cap vb 0 1 1 (zs.map (Value.int .i64)) [.int .i64 x] w (by decide) hn (by omega) (by omega) (by simp) rfl (fun h => by cases h) (fun a ha j u hj => by
          cases ha; rw [Go.WideShapes.add_plain]; exact hcs j u hj) hvs h1v).mono ?_
        rintro e w' ⟨rfl, rfl⟩
        have hge := grownCap_ge w (zs.length + 1) cap 3
        exact ⟨_, rfl, owns_of (heap_alloc_new w.drew _) hge (grownCap_le_maxLen _ _ _ _ (by unfold maxLen; omega)) (by rw [Array.size_append, zeroCells_size]; simp; omega) (by rw [Array.toList_append, List.toList_toArray, take_app (by simp)]; simp) (by simp), (Chg.refl _ _).drew.alloc _, Or.inr rfl⟩
    · have hlt : i < zs.length := by omega
      by_cases hroom : zs.length + 1 ≤ cap
      · refine (Tryz.slices_Insert_int_shift g 0 zs.length cap i vb 0 1 1 (zs.map (Value.int .i64)) [.int .i64 x] w hlt (by decide) hroom (by omega) hgv (by simp) rfl hcs (fun j hj => by rw [cell_of_cells hh]; simp; omega) (fun j hj => frozen_of_cells hh) hvs (ints_one _) h1v
          3 3 1 cap (by simp [World.shape?, hvb]) (by simp [World.shape?, hh, hsz]) (by omega) (frozen_of_cells hvb) (frozen_of_cells hvb)).mono ?_
        rintro e w' ⟨rfl, rfl⟩
        have h1 := heap_setCells_same g 3 ((zs.map (Value.int .i64)).drop i) (0 + (i + 1)) w.drew cur hh
        have h2 := heap_setCells_same g 3 [.int .i64 x] (0 + i) _ _ h1
        refine ⟨_, rfl, owns_of h2 hroom (by unfold maxLen; omega) (by rw [spl_size, spl_size]; omega) ?_ (by simp; omega), Chg.setCells (F := fun k => (Value.slice (some ⟨g, 0, none⟩) zs.length cap).ownBlock = some k) (fun _ => rfl) _ _ _ (Chg.setCells (F := fun k => (Value.slice (some ⟨g, 0, none⟩) zs.length cap).ownBlock = some k) (fun _ => rfl) _ _ _ (Chg.refl _ _).drew), Or.inl rfl⟩
        rw [spl_toList _ _ _ (by rw [spl_size]; simp; omega), spl_toList _ _ _ (by simp; omega), Nat.zero_add, Nat.zero_add, List.length_singleton, shift_list _ htake (by simp) hlt (by simp; omega)]
        simp
      · refine (Tryz.slices_Insert_int_grow g 0 zs.length cap i vb 0 1 1 (zs.map (Value.int .i64)) [.int .i64 x] w hlt (by decide) hn (by omega) (by omega) (by simp) rfl hcs hvs (ints_one _) h1v).mono ?_
        rintro e w' ⟨rfl, rfl⟩
        have hge := grownCap_ge w (zs.length + 1) cap 3
        have hsize : (((zs.map (Value.int .i64)).take i).toArray ++ Builtin.zeroCells (Value.int .i64 0).cells (zs.length + 1 - i) ++ Builtin.zeroCells (Value.int .i64 0).cells (grownCap w (zs.length + 1) cap 3 - (zs.length + 1))).size = grownCap w (zs.length + 1) cap 3 := by
          rw [Array.size_append, Array.size_append, zeroCells_size, zeroCells_size]; simp; omega
        have hlist : (((zs.map (Value.int .i64)).take i).toArray ++ Builtin.zeroCells (Value.int .i64 0).cells (zs.length + 1 - i) ++ Builtin.zeroCells (Value.int .i64 0).cells (grownCap w (zs.length + 1) cap 3 - (zs.length + 1))).toList.take i = (zs.map (Value.int .i64)).take i := by
          rw [Array.toList_append, Array.toList_append, List.toList_toArray, List.append_assoc, take_app (by simp; omega)]
        generalize ((zs.map (Value.int .i64)).take i).toArray ++ Builtin.zeroCells (Value.int .i64 0).cells (zs.length + 1 - i) ++ Builtin.zeroCells (Value.int .i64 0).cells (grownCap w (zs.length + 1) cap 3 - (zs.length + 1)) = A at hsize hlist ⊢
        have h0 := heap_alloc_new w (.cells A 3)
        have h1 : ((w.alloc (.cells A 3)).drew.setCells w.heap.size i [.int .i64 x]).drew.heap[w.heap.size]? = _ := heap_setCells_same w.heap.size 3 [.int .i64 x] i (w.alloc (.cells A 3)).drew _ h0
        have h2 := heap_setCells_same w.heap.size 3 ((zs.map (Value.int .i64)).drop i) (i + 1) _ _ h1
        have hc : Chg (fun k => (Value.slice (some ⟨g, 0, none⟩) zs.length cap).ownBlock = some k) w (((w.alloc (.cells A 3)).drew.setCells w.heap.size i [.int .i64 x]).drew.setCells w.heap.size (i + 1) ((zs.map (Value.int .i64)).drop i)) :=
          Chg.setCells (fun h => absurd h (Nat.lt_irrefl _)) _ _ _ (Chg.setCells (fun h => absurd h (Nat.lt_irrefl _)) _ _ _ ((Chg.refl _ _).alloc _).drew).drew
        refine ⟨_, rfl, owns_of h2 hge (grownCap_le_maxLen _ _ _ _ (by unfold maxLen; omega)) (by rw [spl_size, spl_size, hsize]) ?_ (by simp; omega), hc, Or.inr rfl⟩
        rw [spl_toList _ _ _ (by rw [spl_size, hsize]; simp; omega), spl_toList _ _ _ (by rw [hsize]; simp; omega)]
        rw [grow_list (n := zs.length) _ hlist (by simp) hlt]
        simp

end Go.Proofs.YtccdleafkhnfmaaGreat

namespace Go.Proofs.YtccdleafkhnfmaaGreat
open Go.RowKit

set_option maxHeartbeats 1000000 in
theorem delete_own (v : Value) (zs : List Int) (i : Nat) (w : World) (ho : w.ownsRow 0 3 1 v zs.length (zs.map (Value.int .i64))) (hi : i < zs.length) :
    Calls Tryz.prog 94 #[v, .int .i64 i, .int .i64 (i + 1 : Nat)] w fun e w' =>
      ∃ v', e = .returned v' ∧ w'.ownsRow 0 3 1 v' (zs.length - 1) ((zs.take i ++ zs.drop (i + 1)).map (Value.int .i64)) ∧ Chg (fun g => v.ownBlock = some g) w w' ∧ v'.ownBlock = v.ownBlock := by
  obtain ⟨hl, h | ⟨g, cap, cur, rfl, hg, hh, hn, hcap, hsz, htake⟩⟩ := ho
  · obtain ⟨_, h0⟩ := h; omega
  · simp only [Nat.mul_one] at hsz htake
    have hH : Go.Sort.Holds (Value.int .i64) w g 0 zs.toArray := by
      intro j hj
      have hj' : j < zs.length := by simpa using hj
      refine ⟨?_, frozen_of_cells hh⟩
      have e : (zs.map (Value.int .i64))[j]? = some (.int .i64 zs[j]) := by simp [hj']
      rw [← htake, List.getElem?_take, if_pos hj'] at e
      rw [Nat.zero_add, cell_of_cells hh, ← Array.getElem?_toList, e]
      simp [hj']
    have hcap' := hcap
    unfold maxLen at hcap'
    refine (Tryz.slices_Delete_int g 0 cap i (i + 1) zs w hH hn (by omega) (by omega) (by omega)).mono ?_
    rintro e w' ⟨rfl, q, rfl⟩
    have hlen : (zs.take i ++ zs.drop (i + 1) ++ List.replicate (i + 1 - i) 0).length = zs.length := by simp; omega
    rw [Go.Lib.putRow_eq_setCells (Value.int .i64) w g 0 zs.toArray _ q hH (by simpa using hlen)]
    have h1 := heap_setCells_same g 3 ((zs.take i ++ zs.drop (i + 1) ++ List.replicate (i + 1 - i) 0).map (Value.int .i64)) 0 (w.drewN q) cur hh
    rw [show zs.length - (i + 1 - i) = zs.length - 1 by omega]
    refine ⟨_, rfl, owns_of h1 (by omega) hcap (by rw [spl_size]; exact hsz) ?_ (by simp; omega), Chg.setCells (F := fun k => (Value.slice (some ⟨g, 0, none⟩) zs.length cap).ownBlock = some k) (fun _ => rfl) _ _ _ ((Chg.refl _ _).drewN q), rfl⟩
    rw [spl_toList _ _ _ (by rw [List.length_map, hlen]; omega), List.take_zero, List.nil_append, List.map_append, List.append_assoc, take_app (by simp; omega)]

set_option maxHeartbeats 1000000 in
theorem search_own (v : Value) (zs : List Int) (x : Int) (w : World) (ho : w.ownsRow 0 3 1 v zs.length (zs.map (Value.int .i64))) (hs : zs.Pairwise (· ≤ ·)) (hbig : zs.length ≤ 1099511627776) :
    Calls Tryz.prog 92 #[v, .int .i64 x] w fun e w' => e = .returned (.tuple #[.int .i64 (zs.countP (· < x) : Nat), .bool (zs.contains x)]) ∧ ∃ q, w' = w.drewN q := by
  obtain ⟨hl, h | ⟨g, cap, cur, rfl, hg, hh, hn, hcap, hsz, htake⟩⟩ := ho
  · obtain ⟨rfl, h0⟩ := h
    have hz : zs = [] := List.length_eq_zero_iff.1 h0
    subst hz
    refine (Tryz.slices_BinarySearch_int_empty none 0 x w).mono ?_
    rintro e w' ⟨rfl, rfl⟩
    exact ⟨rfl, 0, rfl⟩
  · simp only [Nat.mul_one] at hsz htake
    have := Tryz.slices_BinarySearch_int g 0 zs.length cap zs x w (Nat.le_refl _) (by omega) (fun j hj => by
      have e : (zs.map (Value.int .i64))[j]? = some (.int .i64 zs[j]) := by simp [hj]
      rw [← htake, List.getElem?_take, if_pos hj] at e
      rw [Nat.zero_add, cell_of_cells hh, ← Array.getElem?_toList, e]
      simp [List.getD, hj]) (by rw [List.take_of_length_le (Nat.le_refl _)]; exact hs)
    rw [List.take_of_length_le (Nat.le_refl _)] at this
    exact this

/-- THE SORTED MAP AT BLOCK B HOLDS THE KEYS ks AND THE VALUES vs; F: the blocks that are its own. -/
def Srt (w : World) (B : Nat) (F : Nat → Prop) (ks vs : List Int) : Prop :=
  ∃ kv vv, w.heap[B]? = some (.cells #[kv, vv] 100 (0, 0)) ∧ w.ownsRow 0 3 1 kv ks.length (ks.map (Value.int .i64)) ∧ w.ownsRow 0 3 1 vv vs.length (vs.map (Value.int .i64)) ∧
    (∀ g, kv.ownBlock = some g → vv.ownBlock ≠ some g) ∧ F B ∧ (∀ g, kv.ownBlock = some g → F g) ∧ (∀ g, vv.ownBlock = some g → F g)

theorem Srt.chg {w w' : World} {B : Nat} {F G : Nat → Prop} {ks vs : List Int} (h : Srt w B F ks vs) (hc : Chg G w w') (hd : ∀ g, F g → ¬ G g) : Srt w' B F ks vs := by
  obtain ⟨kv, vv, h1, h2, h3, h4, h5, h6, h7⟩ := h
  exact ⟨kv, vv, row_chg h1 hc (hd _ h5), owns_chg h2 hc (fun g hg => hd _ (h6 g hg)), owns_chg h3 hc (fun g hg => hd _ (h7 g hg)), h4, h5, h6, h7⟩

/-- an owned slice's value: nil, or at the head of a row -/
theorem owns_val {w : World} {base e size n : Nat} {v : Value} {xs : List Value} (h : w.ownsRow base e size v n xs) : ∃ a cap, v = .slice a n cap := by
  obtain ⟨_, ⟨rfl, rfl⟩ | ⟨g, cap, cur, rfl, _⟩⟩ := h
  · exact ⟨none, 0, rfl⟩
  · exact ⟨_, _, rfl⟩
theorem owns_lt {w : World} {base e size n : Nat} {v : Value} {xs : List Value} (h : w.ownsRow base e size v n xs) {g : Nat} (hg : v.ownBlock = some g) : g < w.heap.size ∧ ∃ cur, w.heap[g]? = some (.cells cur e (0, 0)) := by
  obtain ⟨_, ⟨rfl, rfl⟩ | ⟨g', cap, cur, rfl, _, hh, _⟩⟩ := h
  · simp [Value.ownBlock] at hg
  · simp only [Value.ownBlock, Option.some.injEq] at hg
    subst hg
    exact ⟨(Array.getElem?_eq_some_iff.1 hh).1, cur, hh⟩

theorem found_lt {ks : List Int} {k : Int} (h : ks.contains k = true) : ks.countP (fun x => decide (x < k)) < ks.length := by
  have hm : k ∈ ks := by simpa using h
  rcases Nat.lt_or_ge (ks.countP (fun x => decide (x < k))) ks.length with h1 | h1
  · exact h1
  · have := List.countP_eq_length.1 (Nat.le_antisymm List.countP_le_length h1) k hm
    simp at this

def keysAfter (ks : List Int) (k : Int) : List Int := if ks.contains k then ks else ks.take (ks.countP (· < k)) ++ k :: ks.drop (ks.countP (· < k))
def valsAfter (ks vs : List Int) (k v : Int) : List Int := if ks.contains k then vs.set (ks.countP (· < k)) v else vs.take (ks.countP (· < k)) ++ v :: vs.drop (ks.countP (· < k))

theorem owns_at {w : World} {v : Value} {zs : List Int} (h : w.ownsRow 0 3 1 v zs.length (zs.map (Value.int .i64))) {p : Nat} (hp : p < zs.length) :
    ∃ g cap, v = .slice (some ⟨g, 0, none⟩) zs.length cap ∧ w.cell? ⟨g, p, none⟩ = some (.int .i64 (zs.getD p 0)) ∧ w.frozen? ⟨g, p, none⟩ = false ∧ zs.length ≤ cap ∧ cap ≤ maxLen := by
  have h0 := h
  obtain ⟨_, ⟨rfl, h0⟩ | ⟨g, cap, cur, rfl, _, hh, hn, hcap, _⟩⟩ := h
  · omega
  · refine ⟨g, cap, rfl, ?_, frozen_of_cells hh, hn, hcap⟩
    rw [h0.cellAt p (by omega)]
    simp [hp, List.getD]

theorem Srt.setVal {w : World} {B : Nat} {F : Nat → Prop} {ks vs : List Int} {g p cap : Nat} {kv : Value} (v : Int) (h1 : w.heap[B]? = some (.cells #[kv, .slice (some ⟨g, 0, none⟩) vs.length cap] 100 (0, 0)))
    (h2 : w.ownsRow 0 3 1 kv ks.length (ks.map (Value.int .i64))) (h3 : w.ownsRow 0 3 1 (.slice (some ⟨g, 0, none⟩) vs.length cap) vs.length (vs.map (Value.int .i64))) (h4 : ∀ g', kv.ownBlock = some g' → some g ≠ some g') (h5 : F B) (h6 : ∀ g, kv.ownBlock = some g → F g) (h7 : F g) (q : Nat) :
    Srt ((w.drewN q).setCell ⟨g, p, none⟩ (.int .i64 v)) B F ks (vs.set p v) ∧ Chg F w ((w.drewN q).setCell ⟨g, p, none⟩ (.int .i64 v)) := by
  have hgB : B ≠ g := by
    intro e
    obtain ⟨_, cur, hc⟩ := owns_lt h3 (g := g) rfl
    rw [← e, h1] at hc
    simp at hc
  have hs := ((owns_below h3 (below_drewN (Below.refl _ _) q)).stored p (.int .i64 v)).1
  have hc0 : Chg (fun k => k = g) w ((w.drewN q).setCell ⟨g, p, none⟩ (.int .i64 v)) := Chg.setCell (F := fun k => k = g) ((Chg.refl _ _).drewN q) (fun _ => rfl) _
  have hc : Chg F w ((w.drewN q).setCell ⟨g, p, none⟩ (.int .i64 v)) := ((Chg.refl _ _).drewN q).setCell (fun _ => h7) _
  refine ⟨⟨kv, .slice (some ⟨g, 0, none⟩) vs.length cap, row_chg h1 hc0 hgB, owns_chg h2 hc0 (fun g' hg' e => h4 g' hg' (congrArg some e.symm)), ?_, fun g' hg' e => h4 g' hg' e, h5, h6, fun g' hg' => ?_⟩, hc⟩
  · rw [List.length_set, List.map_set]
    exact hs
  · cases hg'; exact h7

set_option maxHeartbeats 1000000 in
theorem put_found (B : Nat) (F : Nat → Prop) (ks vs : List Int) (k v : Int) (w : World) (h : Srt w B F ks vs) (hs : ks.Pairwise (· ≤ ·)) (hl : vs.length = ks.length) (hbig : ks.length ≤ 1048576) (hf : ks.contains k = true) :
    Calls Tryz.prog 80 #[.pointer (some ⟨B, 0, none⟩), .int .i64 k, .int .i64 v] w fun e w' =>
      e = .returned (.tuple #[]) ∧ ∃ F', Srt w' B F' ks (vs.set (ks.countP (· < k)) v) ∧ Chg F w w' ∧ (∀ g, F' g → F g ∨ w.heap.size ≤ g) := by
  obtain ⟨kv, vv, h1, h2, h3, h4, h5, h6, h7⟩ := h
  have hp : ks.countP (fun x => decide (x < k)) < ks.length := found_lt hf
  obtain ⟨ka, kc, hkv⟩ := owns_val h2
  obtain ⟨g, cap, hvv, d0, d1, hle, hmx⟩ := owns_at h3 (p := ks.countP (fun x => decide (x < k))) (by omega)
  have c0 : w.cell? ⟨B, 0, none⟩ = some kv := by rw [cell_of_cells h1]; rfl
  have c1 : w.cell? ⟨B, 1, none⟩ = some vv := by rw [cell_of_cells h1]; rfl
  have SO := search_own kv ks k w h2 hs (by omega)
  rw [hvv] at h1 h3 h4 h7 c1
  have FIN : Hid (∀ q, Srt ((w.drewN q).setCell ⟨g, ks.countP (fun x => decide (x < k)), none⟩ (.int .i64 v)) B F ks (vs.set (ks.countP (fun x => decide (x < k))) v) ∧ Chg F w ((w.drewN q).setCell ⟨g, ks.countP (fun x => decide (x < k)), none⟩ (.int .i64 v))) :=
    fun q => Srt.setVal v h1 h2 h3 h4 h5 h6 (h7 g rfl) q
  rw [hkv] at c0 SO
  rw [hf] at SO
  have hp2 : ks.countP (fun x => decide (x < k)) < vs.length := by omega
  clear h1 h2 h3 h4 h5 h6 h7 hkv hvv hs hl hf
  unfold maxLen at hmx
  generalize ks.countP (fun x => decide (x < k)) = p at *
  have S1 := (fun (x : Nat) => SO)
  clear SO
  have S2 : Hid _ := S1
  clear S1
  go_enter Tryz.func80, Tryz.ntmps80
  go_wp2_with fail
  refine (S2.out 0).mono ?_
  rintro e w1 ⟨rfl, q, rfl⟩
  go_wp2
  exact bodyPost_ret (v := .tuple #[]) (by simp [results, Tryz.results80, go_sem]) rfl ⟨rfl, F, (FIN.out q).1, (FIN.out q).2, fun _ hg => Or.inl hg⟩

theorem Srt.ins {w w2 w4 : World} {B : Nat} {F : Nat → Prop} {vs ks' vs' : List Int} {kv vv kv' vv' : Value} {N1 N2 : Nat}
    (h1 : w.heap[B]? = some (.cells #[kv, vv] 100 (0, 0))) (h3 : w.ownsRow 0 3 1 vv vs.length (vs.map (Value.int .i64))) (h4 : ∀ g, kv.ownBlock = some g → vv.ownBlock ≠ some g) (h5 : F B) (h6 : ∀ g, kv.ownBlock = some g → F g) (h7 : ∀ g, vv.ownBlock = some g → F g)
    (o2 : w2.ownsRow 0 3 1 kv' ks'.length (ks'.map (Value.int .i64))) (c2 : Chg (fun g => kv.ownBlock = some g) w w2) (b2 : kv'.ownBlock = kv.ownBlock ∨ kv'.ownBlock = some N1) (hN1 : w.heap.size ≤ N1)
    (hB2 : w2.heap[B]? = some (.cells #[kv, vv] 100 (0, 0)))
    (o4 : w4.ownsRow 0 3 1 vv' vs'.length (vs'.map (Value.int .i64))) (c4 : Chg (fun g => vv.ownBlock = some g) (w2.setCell ⟨B, 0, none⟩ kv') w4) (b4 : vv'.ownBlock = vv.ownBlock ∨ vv'.ownBlock = some N2) (hN2 : w2.heap.size ≤ N2) :
    ∃ F', Srt (w4.setCell ⟨B, 1, none⟩ vv') B F' ks' vs' ∧ Chg F w (w4.setCell ⟨B, 1, none⟩ vv') ∧ (∀ g, F' g → F g ∨ w.heap.size ≤ g) := by
  have hBlt : B < w.heap.size := (Array.getElem?_eq_some_iff.1 h1).1
  have hvB : vv.ownBlock ≠ some B := fun e => by
    obtain ⟨_, cur, hc⟩ := owns_lt h3 e
    rw [h1] at hc; simp at hc
  have hkB' : kv'.ownBlock ≠ some B := fun e => by
    obtain ⟨_, cur, hc⟩ := owns_lt o2 e
    rw [hB2] at hc; simp at hc
  have hvlt : ∀ g, vv.ownBlock = some g → g < w.heap.size := fun g hg => (owns_lt h3 hg).1
  have hklt' : ∀ g, kv'.ownBlock = some g → g < w2.heap.size := fun g hg => (owns_lt o2 hg).1
  have hB3 : (w2.setCell ⟨B, 0, none⟩ kv').heap[B]? = some (.cells #[kv', vv] 100 (0, 0)) := by
    rw [heap_setCell_same w2 B 0 _ 100 kv' hB2]; rfl
  have hB4 : w4.heap[B]? = some (.cells #[kv', vv] 100 (0, 0)) := row_chg hB3 c4 hvB
  have hB5 : (w4.setCell ⟨B, 1, none⟩ vv').heap[B]? = some (.cells #[kv', vv'] 100 (0, 0)) := by
    rw [heap_setCell_same w4 B 1 _ 100 vv' hB4]; rfl
  have hkv4 : ∀ g, kv'.ownBlock = some g → vv.ownBlock ≠ some g := by
    intro g hg hv
    rcases b2 with e | e
    · exact h4 g (e ▸ hg) hv
    · have := hvlt g hv
      rw [e] at hg; cases hg; omega
  have cB : ∀ (W : World) (j : Nat) (u : Value), Chg (fun g => g = B) W (W.setCell ⟨B, j, none⟩ u) := fun W j u => Chg.setCell (F := fun g => g = B) (Chg.refl _ _) (fun _ => rfl) _
  have o2' : (w4.setCell ⟨B, 1, none⟩ vv').ownsRow 0 3 1 kv' ks'.length (ks'.map (Value.int .i64)) :=
    owns_chg (owns_chg (owns_chg o2 (cB _ 0 kv') (fun g hg e => hkB' (e ▸ hg))) c4 hkv4) (cB _ 1 vv') (fun g hg e => hkB' (e ▸ hg))
  have hvB' : vv'.ownBlock ≠ some B := fun e => by
    obtain ⟨_, cur, hc⟩ := owns_lt o4 e
    rw [hB4] at hc; simp at hc
  have o4' : (w4.setCell ⟨B, 1, none⟩ vv').ownsRow 0 3 1 vv' vs'.length (vs'.map (Value.int .i64)) := owns_chg o4 (cB _ 1 vv') (fun g hg e => hvB' (e ▸ hg))
  have hsz2 := c2.size
  refine ⟨fun g => g = B ∨ kv'.ownBlock = some g ∨ vv'.ownBlock = some g, ⟨kv', vv', hB5, o2', o4', ?_, Or.inl rfl, fun g hg => Or.inr (Or.inl hg), fun g hg => Or.inr (Or.inr hg)⟩, ?_, ?_⟩
  · intro g hg hv
    rcases b4 with e | e
    · exact hkv4 g hg (e ▸ hv)
    · have := hklt' g hg
      rw [e] at hv; cases hv; omega
  · have e1 : Chg F w w2 := c2.mono (fun g _ hg => h6 g hg)
    have e2 : Chg F w (w2.setCell ⟨B, 0, none⟩ kv') := e1.setCell (fun _ => h5) _
    have e3 : Chg F w w4 := e2.trans c4 (fun g _ hg => h7 g hg)
    exact e3.setCell (fun _ => h5) _
  · rintro g (rfl | hg | hg)
    · exact Or.inl h5
    · rcases b2 with e | e
      · exact Or.inl (h6 g (e ▸ hg))
      · rw [e] at hg; cases hg; exact Or.inr hN1
    · rcases b4 with e | e
      · exact Or.inl (h7 g (e ▸ hg))
      · rw [e] at hg; cases hg; exact Or.inr (by omega)

set_option maxHeartbeats 1000000 in
theorem put_new (B : Nat) (F : Nat → Prop) (ks vs : List Int) (k v : Int) (w : World) (h : Srt w B F ks vs) (hs : ks.Pairwise (· ≤ ·)) (hl : vs.length = ks.length) (hbig : ks.length ≤ 1048576) (hf : ks.contains k = false) :
    Calls Tryz.prog 80 #[.pointer (some ⟨B, 0, none⟩), .int .i64 k, .int .i64 v] w fun e w' =>
      e = .returned (.tuple #[]) ∧ ∃ F', Srt w' B F' (ks.take (ks.countP (· < k)) ++ k :: ks.drop (ks.countP (· < k))) (vs.take (ks.countP (· < k)) ++ v :: vs.drop (ks.countP (· < k))) ∧ Chg F w w' ∧ (∀ g, F' g → F g ∨ w.heap.size ≤ g) := by
  obtain ⟨kv, vv, h1, h2, h3, h4, h5, h6, h7⟩ := h
  have HL : Hid (vs.length = ks.length) := hl
  clear hl
  have hp : ks.countP (fun x => decide (x < k)) ≤ ks.length := List.countP_le_length
  obtain ⟨ka, kc, hkv⟩ := owns_val h2
  obtain ⟨va, vc, hvv⟩ := owns_val h3
  have SO := search_own kv ks k w h2 hs (by omega)
  rw [hf] at SO
  generalize ks.countP (fun x => decide (x < k)) = p at *
  have hBlt : B < w.heap.size := (Array.getElem?_eq_some_iff.1 h1).1
  have c0 : w.cell? ⟨B, 0, none⟩ = some (.slice ka ks.length kc) := by rw [cell_of_cells h1, ← hkv]; rfl
  have S2 : Hid _ := (fun (_ : Nat) => SO)
  clear SO
  have INFO : Hid _ := And.intro h1 (And.intro h2 (And.intro h3 (And.intro h4 (And.intro h6 (And.intro h7 (And.intro hkv hvv))))))
  rw [hkv] at S2
  clear h1 h2 h3 h4 h6 h7 hkv hvv hs hf
  go_enter Tryz.func80, Tryz.ntmps80
  go_wp2_with fail
  refine (S2.out 0).mono ?_
  rintro e w1 ⟨rfl, q, rfl⟩
  go_wp2_with fail
  obtain ⟨h1, h2, h3, h4, h6, h7, hkv, hvv⟩ := INFO.out
  have bq : Below w.heap.size w (w.drewN q) := below_drewN (Below.refl _ _) q
  have b1 : Below w.heap.size w ((w.drewN q).alloc (.cells #[.int .i64 k] 3)) := bq.alloc (Nat.le_refl _) _
  have INS := insert_own kv ks p k w.heap.size ((w.drewN q).alloc (.cells #[.int .i64 k] 3)) (owns_below h2 b1) (heap_alloc_new (w.drewN q) _) (fun e => Nat.lt_irrefl _ (owns_lt h2 e).1) hp (by omega)
  rw [hkv] at INS
  refine INS.mono ?_
  rintro e w2 ⟨kv', rfl, o2, c2, b2⟩
  rw [← hkv] at c2 b2
  have C2 : Chg (fun g => kv.ownBlock = some g) w w2 := (Chg.of_below b1).trans c2 (fun _ _ e => e)
  have hkB : ¬ kv.ownBlock = some B := fun e => by
    obtain ⟨_, cur, hc⟩ := owns_lt h2 e
    rw [h1] at hc; simp at hc
  have hB2 := row_chg h1 C2 hkB
  obtain ⟨a2, q2, hv2⟩ := owns_val o2
  have hN2 : w2.heap.size ≤ w2.heap.size := Nat.le_refl _
  have d0 : w2.cell? ⟨B, 0, none⟩ = some (.slice ka ks.length kc) := by rw [cell_of_cells hB2, ← hkv]; rfl
  have d1 : w2.cell? ⟨B, 1, none⟩ = some (.slice va vs.length vc) := by rw [cell_of_cells hB2, ← hvv]; rfl
  have f0 : w2.frozen? ⟨B, 0, none⟩ = false := frozen_of_cells hB2
  have f1 : w2.frozen? ⟨B, 1, none⟩ = false := frozen_of_cells hB2
  have hvk : ∀ g, vv.ownBlock = some g → ¬ kv.ownBlock = some g := fun g hg hk => h4 g hk hg
  have O3 : w2.ownsRow 0 3 1 vv vs.length (vs.map (Value.int .i64)) := owns_chg h3 C2 hvk
  have hvB : vv.ownBlock ≠ some B := fun e => by
    obtain ⟨_, cur, hc⟩ := owns_lt h3 e
    rw [h1] at hc; simp at hc
  have hsz2 := C2.size
  have I2 : Hid _ := And.intro hv2 (And.intro o2 (And.intro C2 (And.intro b2 (And.intro hB2 (And.intro O3 hvB)))))
  rw [hv2]
  clear hv2 o2 C2 b2 hB2 O3 hvB c2 INS b1 bq hkB hvk c0 h1 h2 h3 h4 h6 h7 hkv hvv
  go_wp2_with fail
  obtain ⟨hv2, o2, C2, b2, hB2, O3, hvB⟩ := I2.out
  obtain ⟨h1, h2, h3, h4, h6, h7, hkv, hvv⟩ := INFO.out
  have cB : Chg (fun g => g = B) w2 (w2.setCell ⟨B, 0, none⟩ (.slice a2 (ks.length + 1) q2)) := Chg.setCell (F := fun g => g = B) (Chg.refl _ _) (fun _ => rfl) _
  have O4 : (w2.setCell ⟨B, 0, none⟩ (.slice a2 (ks.length + 1) q2)).ownsRow 0 3 1 vv vs.length (vs.map (Value.int .i64)) := owns_chg O3 cB (fun g hg e => hvB (e ▸ hg))
  have b3 : Below (w2.setCell ⟨B, 0, none⟩ (.slice a2 (ks.length + 1) q2)).heap.size (w2.setCell ⟨B, 0, none⟩ (.slice a2 (ks.length + 1) q2)) ((w2.setCell ⟨B, 0, none⟩ (.slice a2 (ks.length + 1) q2)).alloc (.cells #[.int .i64 v] 3)) := (Below.refl _ _).alloc (Nat.le_refl _) _
  have hsz3 : (w2.setCell ⟨B, 0, none⟩ (.slice a2 (ks.length + 1) q2)).heap.size = w2.heap.size := by simp
  have hnew : ((w2.setCell ⟨B, 0, none⟩ (.slice a2 (ks.length + 1) q2)).alloc (.cells #[.int .i64 v] 3)).heap[w2.heap.size]? = some (.cells #[.int .i64 v] 3 (0, 0)) := by
    rw [← hsz3]; exact heap_alloc_new _ _
  have INS := insert_own vv vs p v w2.heap.size ((w2.setCell ⟨B, 0, none⟩ (.slice a2 (ks.length + 1) q2)).alloc (.cells #[.int .i64 v] 3)) (owns_below O4 b3) hnew (fun e => Nat.lt_irrefl _ (owns_lt O3 e).1) (by rw [HL.out]; exact hp) (by rw [HL.out]; omega)
  rw [hvv] at INS
  refine INS.mono ?_
  rintro e w4 ⟨vv', rfl, o4, c4, b4⟩
  rw [← hvv] at c4 b4
  have C4 : Chg (fun g => vv.ownBlock = some g) (w2.setCell ⟨B, 0, none⟩ kv') w4 := by rw [hv2]; exact (Chg.of_below b3).trans c4 (fun _ _ e => e)
  have hB3 : (w2.setCell ⟨B, 0, none⟩ kv').heap[B]? = some (.cells #[kv', vv] 100 (0, 0)) := by
    rw [heap_setCell_same w2 B 0 _ 100 kv' hB2]; rfl
  have hB4 := row_chg hB3 C4 hvB
  obtain ⟨a4, q4, hv4⟩ := owns_val o4
  have e1 : w4.cell? ⟨B, 1, none⟩ = some (.slice va vs.length vc) := by rw [cell_of_cells hB4, ← hvv]; rfl
  have g1 : w4.frozen? ⟨B, 1, none⟩ = false := frozen_of_cells hB4
  have hlenk : (ks.take p ++ k :: ks.drop p).length = ks.length + 1 := by simp; omega
  have hlenv : (vs.take p ++ v :: vs.drop p).length = vs.length + 1 := by have := HL.out; simp; omega
  rw [← hlenk] at o2
  rw [← hlenv] at o4
  have hw1 : w.heap.size ≤ ((w.drewN q).alloc (.cells #[.int .i64 k] 3)).heap.size := by simp
  have FIN : Hid _ := And.intro hv4 (Srt.ins (F := F) h1 h3 h4 h5 h6 h7 o2 C2 b2 hw1 hB2 o4 C4 b4 (by simp))
  rw [hv4]
  clear hv4 o4 C4 b4 hB4 hB3 c4 INS hnew hsz3 b3 O4 cB h1 h2 h3 h4 h6 h7 hkv hvv hv2 o2 C2 b2 hB2 O3 hvB hlenk hlenv hw1
  go_wp2
  obtain ⟨hv4, F', r1, r2, r3⟩ := FIN.out
  rw [hv4] at r1 r2
  go_end0
  exact ⟨rfl, F', r1, r2, r3⟩

/-- what the sorted map tells of a key -/
def getS (ks vs : List Int) (k : Int) : Int × Bool := if ks.contains k then (vs.getD (ks.countP (· < k)) 0, true) else (0, false)

set_option maxHeartbeats 1000000 in
theorem get_any (B : Nat) (F : Nat → Prop) (ks vs : List Int) (k : Int) (w : World) (h : Srt w B F ks vs) (hs : ks.Pairwise (· ≤ ·)) (hl : vs.length = ks.length) (hbig : ks.length ≤ 1048576) :
    Calls Tryz.prog 84 #[.pointer (some ⟨B, 0, none⟩), .int .i64 k] w fun e w' => e = .returned (.tuple #[.int .i64 (getS ks vs k).1, .bool (getS ks vs k).2]) ∧ ∃ q, w' = w.drewN q := by
  obtain ⟨kv, vv, h1, h2, h3, h4, h5, h6, h7⟩ := h
  obtain ⟨ka, kc, hkv⟩ := owns_val h2
  have c0 : w.cell? ⟨B, 0, none⟩ = some kv := by rw [cell_of_cells h1]; rfl
  have c1 : w.cell? ⟨B, 1, none⟩ = some vv := by rw [cell_of_cells h1]; rfl
  have SO := search_own kv ks k w h2 hs (by omega)
  cases hf : ks.contains k
  · have G : Hid (getS ks vs k = (0, false)) := by show getS ks vs k = _; rw [getS, hf]; rfl
    rw [hf] at SO
    rw [hkv] at c0 SO
    have S2 : Hid _ := (fun (_ : Nat) => SO)
    clear SO h1 h2 h3 h4 h5 h6 h7 hkv hs hl hf c1
    generalize ks.countP (fun x => decide (x < k)) = p at *
    go_enter Tryz.func84, Tryz.ntmps84
    go_wp2_with fail
    refine (S2.out 0).mono ?_
    rintro e w1 ⟨rfl, q, rfl⟩
    go_wp2
    go_ret2
    rw [G.out]
    exact ⟨rfl, q, rfl⟩
  · have hp : ks.countP (fun x => decide (x < k)) < ks.length := found_lt hf
    have G : Hid (getS ks vs k = (vs.getD (ks.countP (· < k)) 0, true)) := by show getS ks vs k = _; rw [getS, hf]; rfl
    obtain ⟨g, cap, hvv, d0, d1, hle, hmx⟩ := owns_at h3 (p := ks.countP (fun x => decide (x < k))) (by omega)
    have hp2 : ks.countP (fun x => decide (x < k)) < vs.length := by omega
    rw [hf] at SO
    rw [hkv] at c0 SO
    rw [hvv] at c1
    have S2 : Hid _ := (fun (_ : Nat) => SO)
    clear SO h1 h2 h3 h4 h5 h6 h7 hkv hvv hs hl hf d1
    unfold maxLen at hmx
    generalize ks.countP (fun x => decide (x < k)) = p at *
    generalize vs.getD p 0 = y at *
    go_enter Tryz.func84, Tryz.ntmps84
    go_wp2_with fail
    refine (S2.out 0).mono ?_
    rintro e w1 ⟨rfl, q, rfl⟩
    go_wp2
    go_ret2
    rw [G.out]
    exact ⟨rfl, q, rfl⟩

end Go.Proofs.YtccdleafkhnfmaaGreat

namespace Go.Proofs.YtccdleafkhnfmaaGreat
open Go.RowKit

theorem flatP_cons (p : Int × Int) (l : List (Int × Int)) : flatP (p :: l) = .int .i64 p.1 :: .int .i64 p.2 :: flatP l := rfl
theorem flatP_set (l : List (Int × Int)) (a b : Int) : ∀ i, i < l.length → ((flatP l).set (i * 2) (.int .i64 a)).set (i * 2 + 1) (.int .i64 b) = flatP (l.set i (a, b)) := by
  induction l with
  | nil => intro i h; simp at h
  | cons p l ih =>
    intro i h
    cases i with
    | zero => simp [flatP_cons]
    | succ i =>
      have := ih i (by simpa using h)
      rw [flatP_cons, List.set_cons_succ, flatP_cons, show (i + 1) * 2 = i * 2 + 1 + 1 by omega, List.set_cons_succ, List.set_cons_succ, List.set_cons_succ, List.set_cons_succ, this]

def marksP (k : Int) (n : Nat) : List (Int × Int) := (List.range n).map fun (i : Nat) => (k + 2 * i, k + 2 * i + 1)
theorem marksP_length (k : Int) (n : Nat) : (marksP k n).length = n := by simp [marksP]
theorem marksP_succ (k : Int) (n : Nat) : marksP k (n + 1) = marksP k n ++ [(k + 2 * n, k + 2 * n + 1)] := by simp [marksP, List.range_succ]
theorem marksP_at (k : Int) (n i : Nat) (h : i < n) : kOf (marksP k n) i = k + 2 * i ∧ vOf (marksP k n) i = k + 2 * i + 1 := by
  simp [marksP, kOf, vOf, List.getD, h]
def midP (k : Int) (l : List (Int × Int)) (i : Nat) : List (Int × Int) := marksP k i ++ l.drop i
theorem midP_length (k : Int) (l : List (Int × Int)) (i : Nat) (h : i ≤ l.length) : (midP k l i).length = l.length := by simp [midP, marksP_length]; omega
theorem midP_zero (k : Int) (l : List (Int × Int)) : midP k l 0 = l := by simp [midP, marksP]
theorem midP_full (k : Int) (l : List (Int × Int)) : midP k l l.length = marksP k l.length := by simp [midP]
theorem midP_step (k : Int) (l : List (Int × Int)) (i : Nat) (h : i < l.length) : (midP k l i).set i (k + 2 * i, k + 2 * i + 1) = midP k l (i + 1) := by
  rw [midP, midP, marksP_succ, List.drop_eq_getElem_cons h, List.set_append_right _ _ (by rw [marksP_length]; omega), marksP_length, Nat.sub_self, List.set_cons_zero]
  simp

end Go.Proofs.YtccdleafkhnfmaaGreat

namespace Go.Proofs.YtccdleafkhnfmaaGreat

def getP : List (Int × Int) → Int → Int × Bool
  | [], _ => (0, false)
  | p :: l, k => if p.1 = k then (p.2, true) else getP l k

theorem getP_hit {l : List (Int × Int)} {x : Int} : ∀ {i : Nat}, i < l.length → (∀ j, j < i → kOf l j ≠ x) → kOf l i = x → getP l x = (vOf l i, true) := by
  induction l with
  | nil => intro i h; simp at h
  | cons p l ih =>
    intro i h hall hx
    cases i with
    | zero =>
      simp only [kOf, List.getD_cons_zero] at hx
      simp [getP, hx, vOf]
    | succ i =>
      have h0 := hall 0 (by omega)
      simp only [kOf, List.getD_cons_zero] at h0
      rw [getP, if_neg h0, ih (by simpa using h) (fun j hj => by have := hall (j + 1) (by omega); simpa [kOf] using this) (by simpa [kOf] using hx)]
      simp [vOf]
theorem getP_none {l : List (Int × Int)} {x : Int} (hall : ∀ j, j < l.length → kOf l j ≠ x) : getP l x = (0, false) := by
  induction l with
  | nil => rfl
  | cons p l ih =>
    have h0 := hall 0 (by simp)
    simp only [kOf, List.getD_cons_zero] at h0
    rw [getP, if_neg h0]
    exact ih (fun j hj => by have := hall (j + 1) (by simpa using hj); simpa [kOf] using this)

end Go.Proofs.YtccdleafkhnfmaaGreat

namespace Go.Proofs.YtccdleafkhnfmaaGreat

abbrev PL := List (Int × Int)
def keys (l : PL) : List Int := l.map (·.1)
def vals (l : PL) : List Int := l.map (·.2)
theorem keys_length (l : PL) : (keys l).length = l.length := by simp [keys]
theorem vals_length (l : PL) : (vals l).length = l.length := by simp [vals]

/-- ascending by key -/
def Asc (l : PL) : Prop := (keys l).Pairwise (· < ·)
theorem Asc.le {l : PL} (h : Asc l) : (keys l).Pairwise (· ≤ ·) := h.imp (fun h => Int.le_of_lt h)
theorem Asc.cons {p : Int × Int} {l : PL} (h : Asc (p :: l)) : (∀ q ∈ l, p.1 < q.1) ∧ Asc l := by
  have := List.pairwise_cons.1 (show (p.1 :: keys l).Pairwise (· < ·) from h)
  exact ⟨fun q hq => this.1 q.1 (List.mem_map_of_mem hq), this.2⟩
theorem Asc.mk {p : Int × Int} {l : PL} (h1 : ∀ q ∈ l, p.1 < q.1) (h2 : Asc l) : Asc (p :: l) := by
  show (p.1 :: keys l).Pairwise (· < ·)
  refine List.pairwise_cons.2 ⟨fun a ha => ?_, h2⟩
  obtain ⟨q, hq, rfl⟩ := List.mem_map.1 ha
  exact h1 q hq

def putF (l : PL) (k v : Int) : PL := l.filter (fun p => decide (p.1 < k)) ++ (k, v) :: l.filter (fun p => decide (k < p.1))
def delF (l : PL) (k : Int) : PL := l.filter (fun p => decide (p.1 ≠ k))

theorem filter_gt {l : PL} {k : Int} (h : ∀ q ∈ l, k < q.1) : l.filter (fun p => decide (p.1 < k)) = [] ∧ l.filter (fun p => decide (k < p.1)) = l ∧ l.filter (fun p => decide (p.1 ≠ k)) = l := by
  refine ⟨List.filter_eq_nil_iff.2 (fun q hq => ?_), List.filter_eq_self.2 (fun q hq => ?_), List.filter_eq_self.2 (fun q hq => ?_)⟩
  · have := h q hq; simp; omega
  · have := h q hq; simp; omega
  · have := h q hq; simp; omega
theorem countP_gt {l : PL} {k : Int} (h : ∀ q ∈ l, k < q.1) : (keys l).countP (fun x => decide (x < k)) = 0 := by
  rw [List.countP_eq_zero]
  intro a ha
  obtain ⟨q, hq, rfl⟩ := List.mem_map.1 ha
  have := h q hq; simp; omega
theorem contains_gt {l : PL} {k : Int} (h : ∀ q ∈ l, k < q.1) : (keys l).contains k = false := by
  rw [Bool.eq_false_iff]
  intro hc
  have hm : k ∈ keys l := by simpa using hc
  obtain ⟨q, hq, e⟩ := List.mem_map.1 hm
  have := h q hq; omega

/-- the three cases of a map whose first pair is p -/
theorem keys_cons (p : Int × Int) (l : PL) : keys (p :: l) = p.1 :: keys l := rfl
theorem vals_cons (p : Int × Int) (l : PL) : vals (p :: l) = p.2 :: vals l := rfl

theorem count_cons (p : Int × Int) (l : PL) (k : Int) : (keys (p :: l)).countP (fun x => decide (x < k)) = (keys l).countP (fun x => decide (x < k)) + if p.1 < k then 1 else 0 := by
  rw [keys_cons, List.countP_cons]; simp
theorem contains_cons (p : Int × Int) (l : PL) (k : Int) : (keys (p :: l)).contains k = (decide (k = p.1) || (keys l).contains k) := by
  rw [keys_cons, List.contains_cons]
  congr 1

/-- PUT, FOUND: the keys stay, one value turns -/
theorem put_found_keys {l : PL} (h : Asc l) {k v : Int} (hf : (keys l).contains k = true) : keys (putF l k v) = keys l ∧ vals (putF l k v) = (vals l).set ((keys l).countP (fun x => decide (x < k))) v := by
  induction l with
  | nil => simp [keys] at hf
  | cons p l ih =>
    obtain ⟨h1, h2⟩ := h.cons
    by_cases hlt : p.1 < k
    · have hf' : (keys l).contains k = true := by rw [contains_cons] at hf; simpa [show ¬ k = p.1 by omega] using hf
      have := ih h2 hf'
      have e : putF (p :: l) k v = p :: putF l k v := by simp [putF, hlt, show ¬ k < p.1 by omega]
      rw [e, count_cons, if_pos hlt, keys_cons, keys_cons, vals_cons, vals_cons, this.1, this.2]
      simp
    · have hp : k = p.1 := by
        rw [contains_cons] at hf
        rcases Bool.or_eq_true _ _ ▸ hf with h' | h'
        · simpa using h'
        · have hm : k ∈ keys l := by simpa using h'
          obtain ⟨q, hq, e⟩ := List.mem_map.1 hm
          have := h1 q hq; omega
      have hg : ∀ q ∈ l, k < q.1 := fun q hq => by rw [hp]; exact h1 q hq
      obtain ⟨f1, f2, _⟩ := filter_gt hg
      have e : putF (p :: l) k v = (k, v) :: l := by simp [putF, hlt, show ¬ k < p.1 by omega, f1, f2]
      rw [e, count_cons, countP_gt hg, if_neg hlt]
      simp [keys_cons, vals_cons, hp]

/-- PUT, NOT FOUND: both rows are opened at one place -/
theorem put_new_keys {l : PL} (h : Asc l) {k v : Int} (hf : (keys l).contains k = false) :
    keys (putF l k v) = (keys l).take ((keys l).countP (fun x => decide (x < k))) ++ k :: (keys l).drop ((keys l).countP (fun x => decide (x < k))) ∧
    vals (putF l k v) = (vals l).take ((keys l).countP (fun x => decide (x < k))) ++ v :: (vals l).drop ((keys l).countP (fun x => decide (x < k))) := by
  induction l with
  | nil => simp [keys, vals, putF]
  | cons p l ih =>
    obtain ⟨h1, h2⟩ := h.cons
    rw [contains_cons, Bool.or_eq_false_iff] at hf
    have hne : ¬ k = p.1 := by simpa using hf.1
    by_cases hlt : p.1 < k
    · have := ih h2 hf.2
      have e : putF (p :: l) k v = p :: putF l k v := by simp [putF, hlt, show ¬ k < p.1 by omega]
      rw [e, count_cons, if_pos hlt, keys_cons, keys_cons, vals_cons, vals_cons, this.1, this.2]
      simp
    · have hg : ∀ q ∈ l, k < q.1 := fun q hq => by have := h1 q hq; omega
      obtain ⟨f1, f2, _⟩ := filter_gt hg
      have e : putF (p :: l) k v = (k, v) :: p :: l := by simp [putF, hlt, show k < p.1 by omega, f1, f2]
      rw [e, count_cons, countP_gt hg, if_neg hlt]
      simp [keys_cons, vals_cons]

theorem del_found_keys {l : PL} (h : Asc l) {k : Int} (hf : (keys l).contains k = true) :
    keys (delF l k) = (keys l).take ((keys l).countP (fun x => decide (x < k))) ++ (keys l).drop ((keys l).countP (fun x => decide (x < k)) + 1) ∧
    vals (delF l k) = (vals l).take ((keys l).countP (fun x => decide (x < k))) ++ (vals l).drop ((keys l).countP (fun x => decide (x < k)) + 1) := by
  induction l with
  | nil => simp [keys] at hf
  | cons p l ih =>
    obtain ⟨h1, h2⟩ := h.cons
    by_cases hlt : p.1 < k
    · have hf' : (keys l).contains k = true := by rw [contains_cons] at hf; simpa [show ¬ k = p.1 by omega] using hf
      have := ih h2 hf'
      have e : delF (p :: l) k = p :: delF l k := by simp [delF, show ¬ p.1 = k by omega]
      rw [e, count_cons, if_pos hlt, keys_cons, keys_cons, vals_cons, vals_cons, this.1, this.2]
      simp
    · have hp : k = p.1 := by
        rw [contains_cons] at hf
        rcases Bool.or_eq_true _ _ ▸ hf with h' | h'
        · simpa using h'
        · have hm : k ∈ keys l := by simpa using h'
          obtain ⟨q, hq, e⟩ := List.mem_map.1 hm
          have := h1 q hq; omega
      have hg : ∀ q ∈ l, k < q.1 := fun q hq => by rw [hp]; exact h1 q hq
      obtain ⟨_, _, f3⟩ := filter_gt hg
      have e : delF (p :: l) k = l := by rw [delF, List.filter_cons_of_neg (by simp [hp]), f3]
      rw [e, count_cons, countP_gt hg, if_neg hlt]
      simp [keys_cons, vals_cons]

theorem del_none {l : PL} {k : Int} (hf : (keys l).contains k = false) : delF l k = l := by
  rw [delF, List.filter_eq_self]
  intro q hq
  simp only [ne_eq, decide_not, Bool.not_eq_eq_eq_not, Bool.not_true, decide_eq_false_iff_not]
  intro e
  have : k ∈ keys l := List.mem_map.2 ⟨q, hq, e⟩
  rw [Bool.eq_false_iff] at hf
  exact hf (by simpa using this)

theorem get_keys {l : PL} (h : Asc l) (k : Int) : (if (keys l).contains k then ((vals l).getD ((keys l).countP (fun x => decide (x < k))) 0, true) else (0, false)) = getP l k := by
  induction l with
  | nil => simp [keys, getP]
  | cons p l ih =>
    obtain ⟨h1, h2⟩ := h.cons
    have := ih h2
    rw [contains_cons, count_cons, getP, vals_cons]
    by_cases hlt : p.1 < k
    · rw [if_neg (show ¬ p.1 = k by omega), if_pos hlt, ← this]
      simp [show ¬ k = p.1 by omega]
    · by_cases he : p.1 = k
      · have hg : ∀ q ∈ l, k < q.1 := fun q hq => by have := h1 q hq; omega
        rw [countP_gt hg, if_neg hlt, if_pos he]
        simp [he.symm]
      · have hg : ∀ q ∈ l, k < q.1 := fun q hq => by have := h1 q hq; omega
        rw [if_neg he, ← this, contains_gt hg]
        simp [show ¬ k = p.1 by omega]

theorem putF_asc {l : PL} (h : Asc l) (k v : Int) : Asc (putF l k v) := by
  show (keys (l.filter _ ++ (k, v) :: l.filter _)).Pairwise (· < ·)
  rw [keys, List.map_append, List.map_cons]
  refine List.pairwise_append.2 ⟨?_, List.pairwise_cons.2 ⟨?_, ?_⟩, ?_⟩
  · exact List.pairwise_map.2 ((List.pairwise_map.1 h).filter _)
  · intro a ha
    obtain ⟨q, hq, rfl⟩ := List.mem_map.1 ha
    simpa using (List.mem_filter.1 hq).2
  · exact List.pairwise_map.2 ((List.pairwise_map.1 h).filter _)
  · intro a ha b hb
    obtain ⟨q, hq, rfl⟩ := List.mem_map.1 ha
    have h1 : q.1 < k := by simpa using (List.mem_filter.1 hq).2
    rcases List.mem_cons.1 hb with rfl | hb
    · exact h1
    · obtain ⟨r, hr, rfl⟩ := List.mem_map.1 hb
      have h2 : k < r.1 := by simpa using (List.mem_filter.1 hr).2
      omega
theorem delF_asc {l : PL} (h : Asc l) (k : Int) : Asc (delF l k) := List.pairwise_map.2 ((List.pairwise_map.1 h).filter _)

/-- each pair within its limits -/
def PairIn (p : Int × Int) : Prop := (0 ≤ p.1 ∧ p.1 ≤ 999) ∧ (-1000000000 ≤ p.2 ∧ p.2 ≤ 1000000000)
def MapP (l : PL) : Prop := Asc l ∧ ∀ p ∈ l, PairIn p

theorem okAt_iff {l : PL} {i : Nat} : okAt l i = true ↔ PairIn (kOf l i, vOf l i) ∧ (i = 0 ∨ kOf l (i - 1) < kOf l i) := by
  simp [okAt, PairIn, inB, and_assoc]

theorem mapOkB_iff (l : PL) : mapOkB l = true ↔ MapP l := by
  constructor
  · intro h
    have hat : ∀ i, i < l.length → okAt l i = true := fun i hi => mapOkB_at h hi
    have hlt : ∀ j, j < l.length → ∀ i, i < j → kOf l i < kOf l j := by
      intro j
      induction j with
      | zero => intro _ i hi; omega
      | succ j ih =>
        intro hj i hi
        have h1 := (okAt_iff.1 (hat (j + 1) hj)).2
        have h2 : kOf l j < kOf l (j + 1) := by simpa using h1
        by_cases e : i = j
        · subst e; exact h2
        · have := ih (by omega) i (by omega); omega
    have hk : ∀ i (hi : i < l.length), l[i] = (kOf l i, vOf l i) := fun i hi => by simp [kOf, vOf, List.getD, hi]
    refine ⟨?_, ?_⟩
    · refine List.pairwise_map.2 (List.pairwise_iff_getElem.2 (fun i j hi hj hij => ?_))
      rw [hk i hi, hk j hj]
      exact hlt j hj i hij
    · intro p hp
      obtain ⟨i, hi, rfl⟩ := List.getElem_of_mem hp
      rw [hk i hi]
      exact (okAt_iff.1 (hat i hi)).1
  · rintro ⟨h1, h2⟩
    have hk : ∀ i (hi : i < l.length), l[i] = (kOf l i, vOf l i) := fun i hi => by simp [kOf, vOf, List.getD, hi]
    refine mapOkB_true (fun i hi => okAt_iff.2 ⟨?_, ?_⟩)
    · rw [← hk i hi]; exact h2 _ (List.getElem_mem hi)
    · by_cases h0 : i = 0
      · exact Or.inl h0
      · right
        have := List.pairwise_iff_getElem.1 (List.pairwise_map.1 h1) (i - 1) i (by omega) hi (by omega)
        rw [hk i hi, hk (i - 1) (by omega)] at this
        exact this

def clampI (x : Int) : Int := if x < -1000000000 then -1000000000 else if 1000000000 < x then 1000000000 else x
theorem clampI_in (x : Int) : -1000000000 ≤ clampI x ∧ clampI x ≤ 1000000000 := by unfold clampI; split <;> (try split) <;> omega

/-- the map behind a message that is right -/
def doP (l : PL) (m : Int × Int × Int) : PL :=
  if m.1 = 1 then putF l m.2.1 m.2.2 else if m.1 = 2 then delF l m.2.1 else if m.1 = 3 then putF l m.2.1 (clampI ((getP l m.2.1).1 + m.2.2)) else l
/-- the map behind a message -/
def doL (l : PL) (m : Int × Int × Int) : PL := if mapOkB l = true ∧ msgOkB m.1 m.2.1 m.2.2 = true then doP l m else l
def allL (l : PL) (ms : List (Int × Int × Int)) : PL := ms.foldl doL l

theorem putF_mapP {l : PL} (h : MapP l) {k v : Int} (hk : 0 ≤ k ∧ k ≤ 999) (hv : -1000000000 ≤ v ∧ v ≤ 1000000000) : MapP (putF l k v) := by
  refine ⟨putF_asc h.1 k v, fun p hp => ?_⟩
  rcases List.mem_append.1 hp with h1 | h1
  · exact h.2 p (List.mem_filter.1 h1).1
  · rcases List.mem_cons.1 h1 with rfl | h2
    · exact ⟨hk, hv⟩
    · exact h.2 p (List.mem_filter.1 h2).1
theorem delF_mapP {l : PL} (h : MapP l) (k : Int) : MapP (delF l k) := ⟨delF_asc h.1 k, fun p hp => h.2 p (List.mem_filter.1 hp).1⟩
theorem putF_length (l : PL) (k v : Int) : (putF l k v).length ≤ l.length + 1 := by
  have h : ∀ (l : PL), (l.filter (fun p => decide (p.1 < k))).length + (l.filter (fun p => decide (k < p.1))).length ≤ l.length := by
    intro l
    induction l with
    | nil => simp
    | cons p l ih =>
      by_cases h1 : p.1 < k
      · have h2 : ¬ k < p.1 := by omega
        simp [h1, h2]; omega
      · by_cases h2 : k < p.1
        · simp [h1, h2]; omega
        · simp [h1, h2]; omega
  have := h l
  simp [putF]; omega
theorem delF_length (l : PL) (k : Int) : (delF l k).length ≤ l.length := List.length_filter_le _ _

theorem msgOkB_in {o k v : Int} (h : msgOkB o k v = true) : (1 ≤ o ∧ o ≤ 4) ∧ (0 ≤ k ∧ k ≤ 999) ∧ (-1000000000 ≤ v ∧ v ≤ 1000000000) := by
  simp only [msgOkB, Bool.and_eq_true, inB_iff] at h
  exact ⟨h.1, h.2.1, h.2.2.1⟩

theorem doP_mapP {l : PL} (h : MapP l) {m : Int × Int × Int} (hm : msgOkB m.1 m.2.1 m.2.2 = true) : MapP (doP l m) := by
  obtain ⟨_, h2, h3⟩ := msgOkB_in hm
  unfold doP
  split
  · exact putF_mapP h h2 h3
  · split
    · exact delF_mapP h _
    · split
      · exact putF_mapP h h2 (clampI_in _)
      · exact h
theorem doP_length (l : PL) (m : Int × Int × Int) : (doP l m).length ≤ l.length + 1 := by
  unfold doP
  split
  · exact putF_length _ _ _
  · split
    · have := delF_length l m.2.1; omega
    · split
      · exact putF_length _ _ _
      · omega
theorem doL_length (l : PL) (m : Int × Int × Int) : (doL l m).length ≤ l.length + 1 := by
  unfold doL
  split
  · exact doP_length _ _
  · omega
theorem allL_length (l : PL) (ms : List (Int × Int × Int)) : (allL l ms).length ≤ l.length + ms.length := by
  induction ms generalizing l with
  | nil => simp [allL]
  | cons m ms ih =>
    have h1 := ih (doL l m)
    have h2 := doL_length l m
    simp only [allL, List.foldl_cons, List.length_cons] at *
    omega
theorem doL_of_not {l : PL} (h : mapOkB l = false) (m : Int × Int × Int) : doL l m = l := by simp [doL, h]
theorem allL_of_not {l : PL} (h : mapOkB l = false) (ms : List (Int × Int × Int)) : allL l ms = l := by
  induction ms with
  | nil => rfl
  | cons m ms ih => rw [allL, List.foldl_cons, doL_of_not h]; exact ih
theorem doL_mapP {l : PL} (h : MapP l) (m : Int × Int × Int) : MapP (doL l m) := by
  unfold doL
  split
  · exact doP_mapP h (by simp_all)
  · exact h
theorem allL_mapP {l : PL} (h : MapP l) (ms : List (Int × Int × Int)) : MapP (allL l ms) := by
  induction ms generalizing l with
  | nil => exact h
  | cons m ms ih => exact ih (doL_mapP h m)

end Go.Proofs.YtccdleafkhnfmaaGreat

namespace Go.Proofs.YtccdleafkhnfmaaGreat
open Go.RowKit

abbrev ML := List (Int × Int × Int)
def mO (l : ML) (i : Nat) : Int := (l.getD i (0, 0, 0)).1
def mK (l : ML) (i : Nat) : Int := (l.getD i (0, 0, 0)).2.1
def mV (l : ML) (i : Nat) : Int := (l.getD i (0, 0, 0)).2.2
theorem ml_at (l : ML) (i : Nat) (h : i < l.length) : l[i] = (mO l i, mK l i, mV l i) := by simp [mO, mK, mV, List.getD, h]
theorem ml_ext {l1 l2 : ML} (hl : l1.length = l2.length) (h : ∀ i, i < l1.length → mO l1 i = mO l2 i ∧ mK l1 i = mK l2 i ∧ mV l1 i = mV l2 i) : l1 = l2 := by
  apply List.ext_getElem hl
  intro i h1 h2
  rw [ml_at l1 i h1, ml_at l2 i h2, (h i h1).1, (h i h1).2.1, (h i h1).2.2]
theorem take_succM (l : ML) (k : Nat) (hk : k < l.length) : l.take (k + 1) = l.take k ++ [(mO l k, mK l k, mV l k)] := by
  rw [List.take_succ_eq_append_getElem hk, ml_at l k hk]

/-- the cells of a list of messages -/
def flatM (l : ML) : List Value := l.flatMap fun m => [.int .i64 m.1, .int .i64 m.2.1, .int .i64 m.2.2]
theorem flatM_cons (m : Int × Int × Int) (l : ML) : flatM (m :: l) = .int .i64 m.1 :: .int .i64 m.2.1 :: .int .i64 m.2.2 :: flatM l := rfl
theorem flatM_append (l m : ML) : flatM (l ++ m) = flatM l ++ flatM m := by simp [flatM, List.flatMap_append]
theorem flatM_length (l : ML) : (flatM l).length = l.length * 3 := by
  induction l with
  | nil => rfl
  | cons a l ih => rw [flatM_cons]; simp only [List.length_cons]; omega
theorem flatM_at (l : ML) : ∀ i, i < l.length → (flatM l)[i * 3]? = some (.int .i64 (mO l i)) ∧ (flatM l)[i * 3 + 1]? = some (.int .i64 (mK l i)) ∧ (flatM l)[i * 3 + 2]? = some (.int .i64 (mV l i)) := by
  induction l with
  | nil => intro i h; simp at h
  | cons a l ih =>
    intro i h
    cases i with
    | zero => simp [flatM_cons, mO, mK, mV]
    | succ i =>
      have := ih i (by simpa using h)
      have e1 : (i + 1) * 3 = i * 3 + 1 + 1 + 1 := by omega
      have e2 : (i + 1) * 3 + 1 = (i * 3 + 1) + 1 + 1 + 1 := by omega
      have e3 : (i + 1) * 3 + 2 = (i * 3 + 2) + 1 + 1 + 1 := by omega
      rw [e3, e2, e1, flatM_cons]
      simpa [mO, mK, mV] using this
theorem flatM_set (l : ML) (a b c : Int) : ∀ i, i < l.length → (((flatM l).set (i * 3) (.int .i64 a)).set (i * 3 + 1) (.int .i64 b)).set (i * 3 + 2) (.int .i64 c) = flatM (l.set i (a, b, c)) := by
  induction l with
  | nil => intro i h; simp at h
  | cons p l ih =>
    intro i h
    cases i with
    | zero => simp [flatM_cons]
    | succ i =>
      have := ih i (by simpa using h)
      rw [flatM_cons, List.set_cons_succ, flatM_cons, show (i + 1) * 3 + 2 = (i * 3 + 2) + 1 + 1 + 1 by omega, show (i + 1) * 3 = i * 3 + 1 + 1 + 1 by omega]
      simp only [List.set_cons_succ]
      rw [this]

theorem Row.msgs {w : World} {v : Value} {l : ML} (h : Row w v l.length (flatM l)) :
    ∃ (a : Option Addr) (b off cap : Nat), v = .slice a l.length cap ∧ l.length ≤ cap ∧ cap ≤ maxLen ∧ (0 < l.length → a = some ⟨b, off, none⟩) ∧
      (∀ i, i < l.length → w.cell? ⟨b, off + i * 3, none⟩ = some (.int .i64 (mO l i))) ∧ (∀ i, i < l.length → w.cell? ⟨b, off + i * 3 + 1, none⟩ = some (.int .i64 (mK l i))) ∧ (∀ i, i < l.length → w.cell? ⟨b, off + i * 3 + 2, none⟩ = some (.int .i64 (mV l i))) := by
  obtain ⟨a, b, off, cap, h1, h2, h3, h4, h5, _⟩ := h
  exact ⟨a, b, off, cap, h1, h2, h3, h4, fun i hi => h5 _ _ (flatM_at l i hi).1, fun i hi => h5 _ _ (flatM_at l i hi).2.1, fun i hi => h5 _ _ (flatM_at l i hi).2.2⟩

set_option maxHeartbeats 400000 in
theorem szMsgS_any (a : Option Addr) (n cap : Nat) (left : Int) (hn : n ≤ maxLen) (hl : 0 ≤ left) (hl2 : left ≤ 1048576) (w : World) :
    Calls Tryz.prog 23 #[.slice a n cap, .int .i64 left] w fun e w' => e = .returned (.int .i64 (if (n : Int) ≤ left then left - n else -1)) ∧ w' = w := by
  unfold maxLen at hn
  by_cases h : (n : Int) ≤ left
  · go_enter Tryz.func23, Tryz.ntmps23
    go_wp2
    go_ret
    exact ⟨rfl, rfl⟩
  · go_enter Tryz.func23, Tryz.ntmps23
    go_wp2
    go_ret
    exact ⟨rfl, rfl⟩

def eqMsgB (a b c a' b' c' : Int) : Bool := decide (a = a' ∧ b = b' ∧ c = c')
theorem eqMsgB_true {a b c d e f : Int} (h : eqMsgB a b c d e f = true) : a = d ∧ b = e ∧ c = f := by simpa [eqMsgB] using h
theorem ne_of_eqMsgB {l1 l2 : ML} {k : Nat} (h : eqMsgB (mO l1 k) (mK l1 k) (mV l1 k) (mO l2 k) (mK l2 k) (mV l2 k) = false) : l1 ≠ l2 := by
  intro e; subst e; simp [eqMsgB] at h

set_option maxHeartbeats 400000 in
theorem eqMsg_any (a b c d e f : Int) (w : World) :
    Calls Tryz.prog 51 #[.agg #[.int .i64 a, .int .i64 b, .int .i64 c], .agg #[.int .i64 d, .int .i64 e, .int .i64 f]] w fun r w' => r = .returned (.bool (eqMsgB a b c d e f)) ∧ Below w.heap.size w w' := by
  go_enter Tryz.func51, Tryz.ntmps51
  go_wp2
  all_goals (go_ret; refine ⟨ret_bool ?_, ((Below.refl _ _).alloc (Nat.le_refl _) _).alloc (by simp) _⟩; simp_all [eqMsgB])

set_option maxHeartbeats 1000000 in
theorem eqMsgS_any (v1 v2 : Value) (l1 l2 : ML) (w : World) (h1 : Row w v1 l1.length (flatM l1)) (h2 : Row w v2 l2.length (flatM l2)) :
    Calls Tryz.prog 37 #[v1, v2] w fun e w' => e = .returned (.bool (decide (l1 = l2))) ∧ Below w.heap.size w w' := by
  obtain ⟨a, b, off, cap, rfl, hcap, hmax, ha, ho, hk, hv⟩ := h1.msgs
  obtain ⟨a2, b2, off2, cap2, rfl, hcap2, hmax2, ha2, ho2, hk2, hv2⟩ := h2.msgs
  unfold maxLen at hmax hmax2
  by_cases hl : l1.length = l2.length
  · have hne : ((l1.length : Int) != (l2.length : Int)) = false := by rw [bne_eq_false_iff_eq]; omega
    have HL : Hid (l1.length = l2.length) := hl
    have hl2 : l1.length ≤ l2.length := by omega
    clear hl
    go_enter Tryz.func37, Tryz.ntmps37
    go_wp2
    go_loopw [5] (fun i wr => ∃ k : Nat, k ≤ l1.length ∧ i = .int .i64 k ∧ (∀ i, i < k → mO l1 i = mO l2 i ∧ mK l1 i = mK l2 i ∧ mV l1 i = mV l2 i) ∧ Below w.heap.size w wr)
      (fun i _ => l1.length - (intOf i).toNat)
    case atStart => exact ⟨0, Nat.zero_le _, rfl, fun i hi => absurd hi (Nat.not_lt_zero _), Below.refl _ _⟩
    case round =>
      obtain ⟨k, hkl, rfl, hall, hb⟩ := hrel
      have ALL : Hid (∀ i, i < k → mO l1 i = mO l2 i ∧ mK l1 i = mK l2 i ∧ mV l1 i = mV l2 i) := hall
      clear hall
      by_cases hlt : k < l1.length
      · have hal := ha (by omega)
        subst hal
        have hal2 := ha2 (by omega)
        subst hal2
        have hlt2 : k < l2.length := by omega
        have d0 := (hb.cell (by exact cell_lt (ho k hlt))).trans (ho k hlt)
        have d1 := (hb.cell (by exact cell_lt (hk k hlt))).trans (hk k hlt)
        have d2 := (hb.cell (by exact cell_lt (hv k hlt))).trans (hv k hlt)
        have d3 := (hb.cell (by exact cell_lt (ho2 k hlt2))).trans (ho2 k hlt2)
        have d4 := (hb.cell (by exact cell_lt (hk2 k hlt2))).trans (hk2 k hlt2)
        have d5 := (hb.cell (by exact cell_lt (hv2 k hlt2))).trans (hv2 k hlt2)
        clear ho hk hv ha ho2 hk2 hv2 ha2
        go_wp2_with fail
        cases hq : eqMsgB (mO l1 k) (mK l1 k) (mV l1 k) (mO l2 k) (mK l2 k) (mV l2 k)
        · have NE : Hid (decide (l1 = l2) = false) := decide_eq_false (ne_of_eqMsgB hq)
          go_region_with (go_at_call 51; refine (eqMsg_any _ _ _ _ _ _ _).mono ?_; rintro e w1 ⟨rfl, hb1⟩)
          all_goals
            go_wp2
            go_ret
            exact ⟨ret_bool NE.out.symm, hb.drew.trans (hb1.mono hb.size)⟩
        · have EQ : Hid (mO l1 k = mO l2 k ∧ mK l1 k = mK l2 k ∧ mV l1 k = mV l2 k) := eqMsgB_true hq
          go_region_with (go_at_call 51; refine (eqMsg_any _ _ _ _ _ _ _).mono ?_; rintro e w1 ⟨rfl, hb1⟩)
          all_goals
            go_wp2
            go_roundw
            case rel => exact ⟨k + 1, by omega, by go_num, fun i hi => if h : i < k then ALL.out i h else by rw [show i = k by omega]; exact EQ.out, hb.drew.trans (hb1.mono hb.size)⟩
            case measure => simp [intOf]; omega
      · go_wp2
        go_ret
        refine ⟨ret_bool ?_, hb⟩
        symm
        rw [decide_eq_true_iff]
        exact ml_ext HL.out (fun i hi => ALL.out i (by omega))
  · have hne : ((l1.length : Int) != (l2.length : Int)) = true := by rw [bne_iff_ne]; omega
    go_enter Tryz.func37, Tryz.ntmps37
    go_wp2
    go_ret
    refine ⟨ret_bool ?_, Below.refl _ _⟩
    symm
    rw [decide_eq_false_iff_not]
    intro h; exact hl (by rw [h])

theorem Tryz.info79 : (Tryz.prog.info? 79).map (fun i => (i.zero, i.size, i.bytes)) = some (some (.agg #[.int .i64 0, .int .i64 0, .int .i64 0]), 3, 24) := by kernel_rfl

def filledM (l : ML) (k : Nat) : ML := l.take k ++ List.replicate (l.length - k) (0, 0, 0)
theorem filledM_length (l : ML) (k : Nat) (hk : k ≤ l.length) : (filledM l k).length = l.length := by simp [filledM]; omega
theorem filledM_full (l : ML) : filledM l l.length = l := by simp [filledM]
theorem flatM_zero (n : Nat) : flatM (List.replicate n (0, 0, 0)) = List.replicate (n * 3) (.int .i64 0) := by
  induction n with
  | zero => rfl
  | succ n ih => rw [List.replicate_succ, flatM_cons, ih, show (n + 1) * 3 = n * 3 + 1 + 1 + 1 by omega]; simp [List.replicate_succ]
theorem filledM_step (l : ML) (k : Nat) (hk : k < l.length) : (filledM l k).set k (mO l k, mK l k, mV l k) = filledM l (k + 1) := by
  obtain ⟨m, hm⟩ : ∃ m, l.length - k = m + 1 := ⟨l.length - k - 1, by omega⟩
  rw [filledM, filledM, take_succM l k hk, hm, show l.length - (k + 1) = m by omega, List.replicate_succ, List.set_append_right _ _ (by simp; omega)]
  simp [show min k l.length = k by omega]

set_option maxHeartbeats 1000000 in
theorem toMsgS_any (v : Value) (l : ML) (w : World) (hr : Row w v l.length (flatM l)) (hn : l.length ≤ 1048576) :
    Calls Tryz.prog 29 #[v] w fun e w' => ∃ v', e = .returned v' ∧ w'.ownsRow w.heap.size 79 3 v' l.length (flatM l) ∧ Below w.heap.size w w' := by
  obtain ⟨a, b, off, cap, rfl, hcap, hmax, ha, ho, hk, hv⟩ := hr.msgs
  obtain ⟨i0, hi, hz0, hz1, hz2⟩ := info_parts Tryz.info79
  unfold maxLen at hmax
  go_enter Tryz.func29, Tryz.ntmps29
  go_wp2_with (at_make; refine wpList_make_full _ rfl _ _ 35 rfl w.heap.size 79 i0 _ 3 Tryz.underlying35 hi hz0 hz1 .i64 .i64 _ _ l.length rfl rfl rfl rfl ?c1 ?c2 ?c3 ?_)
  case c1 => rw [hz2]; omega
  case c2 => unfold maxLen; omega
  case c3 => exact Nat.le_refl _
  intro w0 hown0 hgrow0
  have hb0 : Below w.heap.size w w0 := (Below.refl _ _).grown hgrow0 (Nat.le_refl _) (fun k hk => by cases hk)
  clear hgrow0
  go_wp2
  go_loopw [4] (fun i wr => ∃ k : Nat, k ≤ l.length ∧ i = .int .i64 k ∧ wr.ownsRow w.heap.size 79 3 (.slice (some ⟨w.heap.size, 0, none⟩) l.length l.length) l.length (flatM (filledM l k)) ∧ Below w.heap.size w wr)
    (fun i _ => l.length - (intOf i).toNat)
  case atStart => exact ⟨0, Nat.zero_le _, rfl, by rw [madeCells_all _ (.int .i64 0) (by decide) (fun i hi => by match i, hi with | 0, _ => rfl | 1, _ => rfl | 2, _ => rfl)] at hown0; rw [show filledM l 0 = List.replicate l.length (0, 0, 0) by simp [filledM], flatM_zero]; exact hown0, hb0⟩
  case round =>
    obtain ⟨k, hkl, rfl, hown, hb⟩ := hrel
    clear hown0 hb0
    by_cases hlt : k < l.length
    · have hal := ha (by omega)
      subst hal
      have d0 := (hb.cell (by exact cell_lt (ho k hlt))).trans (ho k hlt)
      have d1 := (hb.cell (by exact cell_lt (hk k hlt))).trans (hk k hlt)
      have d2 := (hb.cell (by exact cell_lt (hv k hlt))).trans (hv k hlt)
      clear ho hk hv ha
      go_wp2_with fail
      refine (toMsg_any _ _ _ _).mono ?_
      rintro e w1 ⟨rfl, hb1⟩
      have own1 := owns_below hown hb1
      have hfl : (filledM l k).length = l.length := filledM_length l k hkl
      have hat := flatM_at (filledM l k) k (by omega)
      have e0 := (own1.cellAt (k * 3) (by omega)).trans hat.1
      have e1 := (own1.cellAt (k * 3 + 1) (by omega)).trans hat.2.1
      have e2 := (own1.cellAt (k * 3 + 2) (by omega)).trans hat.2.2
      have f0 := own1.frozenAt (k * 3)
      have f1 := own1.frozenAt (k * 3 + 1)
      have f2 := own1.frozenAt (k * 3 + 2)
      have st := (own1.stored (k * 3) (.int .i64 (mO l k))).1
      have st2 := (st.stored (k * 3 + 1) (.int .i64 (mK l k))).1
      have st3 := (st2.stored (k * 3 + 2) (.int .i64 (mV l k))).1
      rw [flatM_set _ _ _ _ k (by omega), filledM_step l k hlt] at st3
      have hb2 : Below w.heap.size w w1 := hb.trans (hb1.mono hb.size)
      generalize mO (filledM l k) k = x0 at *
      generalize mK (filledM l k) k = x1 at *
      generalize mV (filledM l k) k = x2 at *
      have ST : Hid _ := st3
      clear st st2 st3 hown hb1 d0 d1 d2 own1 hat hfl hr
      go_wp2
      go_roundw
      case rel => exact ⟨k + 1, by omega, by go_num, ST.out, ((hb2.setCell (Nat.le_refl _) _).setCell (Nat.le_refl _) _).setCell (Nat.le_refl _) _⟩
      case measure => simp [intOf]; omega
    · go_wp2
      go_ret
      have hkk : k = l.length := by omega
      subst hkk
      rw [filledM_full] at hown
      exact ⟨_, rfl, hown, hb⟩

end Go.Proofs.YtccdleafkhnfmaaGreat
