/-
  Lists of writes (a place, a text, a super): their cells, and the laws' functions that copy and compare one.
-/
import Derived.Test.YtmpngehhojlmmaaStrsD
namespace Go.Proofs.Ytmpngehhojlmmaa
open Go.RowKit

/-- a write: At, Text, and Ver, Root of Super -/
abbrev Wr := Int × ByteArray × Int × Int
def wA (l : List Wr) (i : Nat) : Int := (l.getD i (0, ⟨#[]⟩, 0, 0)).1
def wT (l : List Wr) (i : Nat) : ByteArray := (l.getD i (0, ⟨#[]⟩, 0, 0)).2.1
def wV (l : List Wr) (i : Nat) : Int := (l.getD i (0, ⟨#[]⟩, 0, 0)).2.2.1
def wR (l : List Wr) (i : Nat) : Int := (l.getD i (0, ⟨#[]⟩, 0, 0)).2.2.2
def flatW (l : List Wr) : List Value := l.flatMap fun p => [.int .i64 p.1, .string p.2.1, .int .i64 p.2.2.1, .int .i64 p.2.2.2]
theorem flatW_cons (p : Wr) (l : List Wr) : flatW (p :: l) = .int .i64 p.1 :: .string p.2.1 :: .int .i64 p.2.2.1 :: .int .i64 p.2.2.2 :: flatW l := rfl
theorem flatW_length (l : List Wr) : (flatW l).length = l.length * 4 := by
  induction l with
  | nil => rfl
  | cons a l ih => rw [flatW_cons]; simp only [List.length_cons, ih]; omega
theorem flatW_append (l m : List Wr) : flatW (l ++ m) = flatW l ++ flatW m := by simp [flatW, List.flatMap_append]
theorem flatW_at (l : List Wr) : ∀ i, i < l.length → (flatW l)[i * 4]? = some (.int .i64 (wA l i)) ∧ (flatW l)[i * 4 + 1]? = some (.string (wT l i)) ∧ (flatW l)[i * 4 + 2]? = some (.int .i64 (wV l i)) ∧ (flatW l)[i * 4 + 3]? = some (.int .i64 (wR l i)) := by
  induction l with
  | nil => intro i h; simp at h
  | cons a l ih =>
    intro i h
    cases i with
    | zero => simp [flatW, wA, wT, wV, wR]
    | succ i =>
      have := ih i (by simpa using h)
      rw [flatW_cons, show (i + 1) * 4 = i * 4 + 1 + 1 + 1 + 1 by omega, show i * 4 + 1 + 1 + 1 + 1 + 1 = (i * 4 + 1) + 1 + 1 + 1 + 1 by omega, show i * 4 + 1 + 1 + 1 + 1 + 2 = (i * 4 + 2) + 1 + 1 + 1 + 1 by omega, show i * 4 + 1 + 1 + 1 + 1 + 3 = (i * 4 + 3) + 1 + 1 + 1 + 1 by omega]
      simpa [wA, wT, wV, wR] using this
theorem flatW_one (l : List Wr) : ∀ y ∈ flatW l, y.oneCell' = true := by
  induction l with
  | nil => intro y hy; simp [flatW] at hy
  | cons p l ih =>
    intro y hy
    rw [flatW_cons] at hy
    simp only [List.mem_cons] at hy
    rcases hy with rfl | rfl | rfl | rfl | hy
    · rfl
    · rfl
    · rfl
    · rfl
    · exact ih y hy
theorem flatW_set (l : List Wr) (a : Int) (t : ByteArray) (b c : Int) : ∀ i, i < l.length → ((((flatW l).set (i * 4) (.int .i64 a)).set (i * 4 + 1) (.string t)).set (i * 4 + 2) (.int .i64 b)).set (i * 4 + 3) (.int .i64 c) = flatW (l.set i (a, t, b, c)) := by
  induction l with
  | nil => intro i h; simp at h
  | cons p l ih =>
    intro i h
    cases i with
    | zero => simp [flatW_cons]
    | succ i =>
      have := ih i (by simpa using h)
      rw [flatW_cons, List.set_cons_succ, flatW_cons, show (i + 1) * 4 = i * 4 + 1 + 1 + 1 + 1 by omega, show i * 4 + 1 + 1 + 1 + 1 + 1 = (i * 4 + 1) + 1 + 1 + 1 + 1 by omega, show i * 4 + 1 + 1 + 1 + 1 + 2 = (i * 4 + 2) + 1 + 1 + 1 + 1 by omega, show i * 4 + 1 + 1 + 1 + 1 + 3 = (i * 4 + 3) + 1 + 1 + 1 + 1 by omega]
      simp only [List.set_cons_succ, this]

theorem Row.writs {w : World} {v : Value} {l : List Wr} (h : Row w v l.length (flatW l)) :
    ∃ (a : Option Addr) (b off cap : Nat), v = .slice a l.length cap ∧ l.length ≤ cap ∧ cap ≤ maxLen ∧ (0 < l.length → a = some ⟨b, off, none⟩) ∧
      (∀ i, i < l.length → w.cell? ⟨b, off + i * 4, none⟩ = some (.int .i64 (wA l i)) ∧ w.cell? ⟨b, off + i * 4 + 1, none⟩ = some (.string (wT l i)) ∧ w.cell? ⟨b, off + i * 4 + 2, none⟩ = some (.int .i64 (wV l i)) ∧ w.cell? ⟨b, off + i * 4 + 3, none⟩ = some (.int .i64 (wR l i))) := by
  obtain ⟨a, b, off, cap, h1, h2, h3, h4, h5, _⟩ := h
  exact ⟨a, b, off, cap, h1, h2, h3, h4, fun i hi => ⟨h5 _ _ (flatW_at l i hi).1, h5 _ _ (flatW_at l i hi).2.1, h5 _ _ (flatW_at l i hi).2.2.1, h5 _ _ (flatW_at l i hi).2.2.2⟩⟩
theorem extW {l1 l2 : List Wr} (hl : l1.length = l2.length) (h : ∀ i, i < l1.length → wA l1 i = wA l2 i ∧ wT l1 i = wT l2 i ∧ wV l1 i = wV l2 i ∧ wR l1 i = wR l2 i) : l1 = l2 := by
  apply List.ext_getElem hl
  intro i h1 h2
  have := h i h1
  simp only [wA, wT, wV, wR, List.getD, List.getElem?_eq_getElem h1, List.getElem?_eq_getElem h2, Option.getD_some] at this
  exact Prod.ext this.1 (Prod.ext this.2.1 (Prod.ext this.2.2.1 this.2.2.2))
def vW (a : Int) (t : ByteArray) (b c : Int) : Value := .agg #[.int .i64 a, .string t, .int .i64 b, .int .i64 c]

theorem bel_al {w u : World} (h : Below w.heap.size w u) (o : Obj) : Below w.heap.size w (u.alloc o) := h.alloc h.size o
set_option maxHeartbeats 400000 in
theorem toSuper_at (k v : Int) (w : World) :
    Calls Try.prog 53 #[.agg #[.int .i64 k, .int .i64 v]] w fun e w' => e = .returned (.agg #[.int .i64 k, .int .i64 v]) ∧ ∃ A B C, w' = ((w.alloc A).alloc B).alloc C := by
  go_enter Try.func53, Try.ntmps53
  go_wp2
  refine bodyPost_ret (v := .agg #[.int .i64 k, .int .i64 v]) (by simp [results, Try.results53, go_sem]) rfl ⟨rfl, _, _, _, rfl⟩

set_option maxHeartbeats 400000 in
theorem toWrite_any (a : Int) (t : ByteArray) (b c : Int) (w : World) :
    Calls Try.prog 39 #[.agg #[.int .i64 a, .string t, .int .i64 b, .int .i64 c]] w fun e w' => e = .returned (.agg #[.int .i64 a, .string t, .int .i64 b, .int .i64 c]) ∧ Below w.heap.size w w' := by
  go_enter Try.func39, Try.ntmps39
  go_wp2_with fail
  refine (toSuper_at b c _).mono ?_
  rintro e w1 ⟨rfl, A, B, C, rfl⟩
  go_wp2
  refine bodyPost_ret (v := .agg #[.int .i64 a, .string t, .int .i64 b, .int .i64 c]) (by simp [results, Try.results39, go_sem]) rfl ⟨rfl, ?_⟩
  exact bel_al (bel_al (bel_al (bel_al (bel_al (bel_al (Below.refl _ _) _) _) _) _) _) _

def eqWrB (a : Int) (t : ByteArray) (b c : Int) (a' : Int) (t' : ByteArray) (b' c' : Int) : Bool := decide (a = a' ∧ t = t' ∧ b = b' ∧ c = c')
set_option maxHeartbeats 400000 in
theorem eqWrite_any (a : Int) (t : ByteArray) (b c : Int) (a' : Int) (t' : ByteArray) (b' c' : Int) (w : World) :
    Calls Try.prog 42 #[.agg #[.int .i64 a, .string t, .int .i64 b, .int .i64 c], .agg #[.int .i64 a', .string t', .int .i64 b', .int .i64 c']] w fun e w' => e = .returned (.bool (eqWrB a t b c a' t' b' c')) ∧ Below w.heap.size w w' := by
  by_cases h1 : a = a'
  · have h1' : (a != a') = false := by rw [bne_eq_false_iff_eq]; exact h1
    by_cases h2 : t = t'
    · have h2' : (t.toList == t'.toList) = true := (Lib.bytes_beq_iff _ _).2 h2
      have E : Hid (eqWrB a t b c a' t' b' c' = eqPairB b c b' c') := by simp [eqWrB, eqPairB, h1, h2, Hid]
      clear h1 h2
      go_enter Try.func42, Try.ntmps42
      go_wp2_with fail
      refine (eqSuper_any b c b' c' _).mono ?_
      rintro e w1 ⟨rfl, b1⟩
      have B1 : Hid (Below w.heap.size w w1) := Below.and (bel_al (bel_al (Below.refl _ _) _) _) b1
      clear b1
      generalize eqPairB b c b' c' = q at *
      cases q
      · go_wp2
        go_ret
        exact ⟨ret_bool E.out.symm, B1.out⟩
      · go_wp2
        go_ret
        exact ⟨ret_bool E.out.symm, B1.out⟩
    · have h2' : (t.toList == t'.toList) = false := (Lib.bytes_beq_false_iff _ _).2 h2
      have E : Hid (eqWrB a t b c a' t' b' c' = false) := by simp [eqWrB, h2, Hid]
      clear h1 h2
      go_enter Try.func42, Try.ntmps42
      go_wp2
      go_ret
      exact ⟨ret_bool E.out.symm, bel_al (bel_al (Below.refl _ _) _) _⟩
  · have h1' : (a != a') = true := by rw [bne_iff_ne]; exact h1
    have E : Hid (eqWrB a t b c a' t' b' c' = false) := by simp [eqWrB, h1, Hid]
    clear h1
    go_enter Try.func42, Try.ntmps42
    go_wp2
    go_ret
    exact ⟨ret_bool E.out.symm, bel_al (bel_al (Below.refl _ _) _) _⟩

set_option maxHeartbeats 400000 in
theorem szWrite_any (a : Int) (t : ByteArray) (b c : Int) (left : Int) (w : World) (ht : t.size ≤ maxLen) (h0 : 0 ≤ left) (h1 : left ≤ 1048576) :
    Calls Try.prog 36 #[.agg #[.int .i64 a, .string t, .int .i64 b, .int .i64 c], .int .i64 left] w fun e w' => e = .returned (.int .i64 (if left - t.size < 0 then -1 else left - t.size)) ∧ Below w.heap.size w w' := by
  unfold maxLen at ht
  by_cases hc : left - (t.size : Int) < 0
  · rw [if_pos hc]
    go_enter Try.func36, Try.ntmps36
    go_wp2
    go_ret
    exact ⟨rfl, bel_al (Below.refl _ _) _⟩
  · rw [if_neg hc]
    go_enter Try.func36, Try.ntmps36
    go_wp2
    go_ret
    exact ⟨rfl, bel_al (Below.refl _ _) _⟩

end Go.Proofs.Ytmpngehhojlmmaa
