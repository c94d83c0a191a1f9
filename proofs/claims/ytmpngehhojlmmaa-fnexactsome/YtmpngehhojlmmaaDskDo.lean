/-
  What writes make of a disk, as a plain function; the program's and the model's copies of a disk's rows.
-/
import Derived.Test.YtmpngehhojlmmaaDsk
import Derived.Lib.BufferMore
namespace Go.Proofs.Ytmpngehhojlmmaa
open Go.RowKit

def stepP (P : PL) (a : Int) (t : ByteArray) : PL := if 0 ≤ a ∧ a < P.length then P.set a.toNat t else P
def stepS (S : SL) (a : Int) (b c : Int) : SL := if 0 ≤ -1 - a ∧ -1 - a < min 2 (S.length : Int) then S.set (-1 - a).toNat (b, c) else S
def doP : PL → List Wr → PL
  | P, [] => P
  | P, x :: r => doP (stepP P x.1 x.2.1) r
def doS : SL → List Wr → SL
  | S, [] => S
  | S, x :: r => doS (stepS S x.1 x.2.2.1 x.2.2.2) r
theorem stepP_length (P : PL) (a : Int) (t : ByteArray) : (stepP P a t).length = P.length := by unfold stepP; split <;> simp
theorem stepS_length (S : SL) (a b c : Int) : (stepS S a b c).length = S.length := by unfold stepS; split <;> simp
theorem doP_length : ∀ (l : List Wr) (P : PL), (doP P l).length = P.length
  | [], _ => rfl
  | x :: r, P => by rw [doP, doP_length r, stepP_length]
theorem doS_length : ∀ (l : List Wr) (S : SL), (doS S l).length = S.length
  | [], _ => rfl
  | x :: r, S => by rw [doS, doS_length r, stepS_length]
theorem doP_snoc (x : Wr) : ∀ (l : List Wr) (P : PL), doP P (l ++ [x]) = stepP (doP P l) x.1 x.2.1
  | [], _ => rfl
  | y :: r, P => by rw [List.cons_append, doP, doP, doP_snoc x r]
theorem doS_snoc (x : Wr) : ∀ (l : List Wr) (S : SL), doS S (l ++ [x]) = stepS (doS S l) x.1 x.2.2.1 x.2.2.2
  | [], _ => rfl
  | y :: r, S => by rw [List.cons_append, doS, doS, doS_snoc x r]
theorem takeW_succ (l : List Wr) (k : Nat) (hk : k < l.length) : l.take (k + 1) = l.take k ++ [(wA l k, wT l k, wV l k, wR l k)] := by
  have e := wAll_eq l k hk
  unfold wAll at e
  rw [List.take_succ_eq_append_getElem hk, e]
theorem doP_next (l : List Wr) (P : PL) (k : Nat) (hk : k < l.length) : doP P (l.take (k + 1)) = stepP (doP P (l.take k)) (wA l k) (wT l k) := by rw [takeW_succ l k hk, doP_snoc]
theorem doS_next (l : List Wr) (S : SL) (k : Nat) (hk : k < l.length) : doS S (l.take (k + 1)) = stepS (doS S (l.take k)) (wA l k) (wV l k) (wR l k) := by rw [takeW_succ l k hk, doS_snoc]

theorem Row.len {w : World} {v : Value} {n : Nat} {xs : List Value} (h : Row w v n xs) : ∃ a q, v = .slice a n q ∧ q ≤ maxLen ∧ n ≤ q := by
  obtain ⟨a, b, off, cap, h1, h2, h3, _⟩ := h
  exact ⟨a, cap, h1, h3, h2⟩
theorem room_row {n bytes : Nat} (h : n ≤ 8388608) (hb : bytes ≤ 256) : 0 + n ≤ maxLen ∧ (0 + n) * bytes ≤ 140737488355328 := by
  refine ⟨by unfold maxLen; omega, ?_⟩
  rw [Nat.zero_add]
  have : n * bytes ≤ n * 256 := Nat.mul_le_mul_left _ hb
  omega

set_option maxRecDepth 100000 in
set_option maxHeartbeats 1000000 in
theorem cloneS_any (v : Value) (P : PL) (w : World) (h : Row w v P.length (flatS P)) (hn : P.length ≤ 8388608) :
    Calls Try.prog 26 #[v] w fun e w' => ∃ v', e = .returned v' ∧ w'.ownsRow w.heap.size 9 1 v' P.length (flatS P) ∧ Below w.heap.size w w' := by
  obtain ⟨a, q, hv, hq, _⟩ := h.len
  obtain ⟨i0, hi0, hz0, hz1, hz2⟩ := info_parts Try.info9
  have HR : Hid _ := room_row (n := P.length) (bytes := 16) hn (by decide)
  have RR : Hid (∀ u, Below w.heap.size w u → Row u v P.length (flatS P)) := fun u hu => h.below hu
  cases a with
  | none =>
    have hn0 : P.length = 0 := by
      obtain ⟨a, b, o, c, h3, h4, h5, h6, h7, h8⟩ := h
      rw [hv] at h3
      injection h3 with e1 e2 e3
      have := h8 e1.symm
      omega
    have hx : P = [] := List.length_eq_zero_iff.1 hn0
    subst hx hv
    clear h RR
    have hnil : ∀ W, (binOp .eql 24 (.slice none 0 q) (.slice none 0 0)).run Try.prog W = .ok (.bool true) W := fun W => Lib.run_eql_slice_nil_nil W _ _ Try.underlying24
    go_enter Try.func26, Try.ntmps26
    go_wp2
    go_ret
    exact ⟨_, rfl, ⟨by simp [flatS], Or.inl ⟨rfl, rfl⟩⟩, Below.refl _ _⟩
  | some p =>
    subst hv
    clear h
    have hnil : ∀ W, (binOp .eql 24 (.slice (some p) P.length q) (.slice none 0 0)).run Try.prog W = .ok (.bool false) W := fun W => Lib.run_eql_slice_some_nil W _ _ _ Try.underlying24
    go_enter Try.func26, Try.ntmps26
    go_wp2_with (at_builtin; refine app_row (w.alloc (.cells #[] 9)) rfl _ _ 24 rfl w.heap.size 9 i0 _ 1 16 Try.underlying24 hi0 hz0 hz1 hz2 rfl (by decide) (.slice (some ⟨w.heap.size, 0, none⟩) 0 0) 0 [] rfl (empty_own w w.heap.size 9 1 (Nat.le_refl _)) (.slice (some p) P.length q) P.length (flatS P) rfl (RR.out _ (bel_al (w := w) (Below.refl _ _) _)) (by rw [flatS_length]; omega) (flatS_one P) HR.out.1 HR.out.2 (by simp) ?_)
    intro v' w2 o1 _ o3
    have B2 : Below w.heap.size w w2 := Below.trans (bel_al (w := w) (Below.refl _ _) _) o3
    have O1 : Hid (w2.ownsRow w.heap.size 9 1 v' P.length (flatS P)) := o1
    clear o1 o3
    go_wp2
    go_ret
    exact ⟨_, rfl, O1.out, B2⟩

set_option maxRecDepth 100000 in
set_option maxHeartbeats 1000000 in
theorem cloneP_any (v : Value) (P : SL) (w : World) (h : Row w v P.length (flatP P)) (hn : P.length ≤ 8388608) :
    Calls Try.prog 27 #[v] w fun e w' => ∃ v', e = .returned v' ∧ w'.ownsRow w.heap.size 33 2 v' P.length (flatP P) ∧ Below w.heap.size w w' := by
  obtain ⟨a, q, hv, hq, _⟩ := h.len
  obtain ⟨i0, hi0, hz0, hz1, hz2⟩ := info_parts Try.info33
  have HR : Hid _ := room_row (n := P.length) (bytes := 16) hn (by decide)
  have RR : Hid (∀ u, Below w.heap.size w u → Row u v P.length (flatP P)) := fun u hu => h.below hu
  cases a with
  | none =>
    have hn0 : P.length = 0 := by
      obtain ⟨a, b, o, c, h3, h4, h5, h6, h7, h8⟩ := h
      rw [hv] at h3
      injection h3 with e1 e2 e3
      have := h8 e1.symm
      omega
    have hx : P = [] := List.length_eq_zero_iff.1 hn0
    subst hx hv
    clear h RR
    have hnil : ∀ W, (binOp .eql 25 (.slice none 0 q) (.slice none 0 0)).run Try.prog W = .ok (.bool true) W := fun W => Lib.run_eql_slice_nil_nil W _ _ Try.underlying25
    go_enter Try.func27, Try.ntmps27
    go_wp2
    go_ret
    exact ⟨_, rfl, ⟨by simp [flatP], Or.inl ⟨rfl, rfl⟩⟩, Below.refl _ _⟩
  | some p =>
    subst hv
    clear h
    have hnil : ∀ W, (binOp .eql 25 (.slice (some p) P.length q) (.slice none 0 0)).run Try.prog W = .ok (.bool false) W := fun W => Lib.run_eql_slice_some_nil W _ _ _ Try.underlying25
    go_enter Try.func27, Try.ntmps27
    go_wp2_with (at_builtin; refine app_row (w.alloc (.cells #[] 33)) rfl _ _ 25 rfl w.heap.size 33 i0 _ 2 16 Try.underlying25 hi0 hz0 hz1 hz2 rfl (by decide) (.slice (some ⟨w.heap.size, 0, none⟩) 0 0) 0 [] rfl (empty_own w w.heap.size 33 2 (Nat.le_refl _)) (.slice (some p) P.length q) P.length (flatP P) rfl (RR.out _ (bel_al (w := w) (Below.refl _ _) _)) (by rw [flatP_length]) (flatP_one P) HR.out.1 HR.out.2 (by simp) ?_)
    intro v' w2 o1 _ o3
    have B2 : Below w.heap.size w w2 := Below.trans (bel_al (w := w) (Below.refl _ _) _) o3
    have O1 : Hid (w2.ownsRow w.heap.size 33 2 v' P.length (flatP P)) := o1
    clear o1 o3
    go_wp2
    go_ret
    exact ⟨_, rfl, O1.out, B2⟩

end Go.Proofs.Ytmpngehhojlmmaa
