/-
  The number form, as a plain function on numbers: seven bits a byte, the lowest first.
  Rows of bytes: appended to one by one, held against each other, marked.
  The laws' own functions that write marks into a row of bytes, and look for them; the model's and the program's PutNum.
  PutNum, the model's and the program's: the bytes of the number form, a row of its own.
  The numbers of a node, and their bytes, as plain functions.
-/
import Derived.Test.YtbmcojelgbkafaaDoorOfNodes4
import Derived.Test.YtbmcojelgbkafaaDoorOfNodes2
namespace Go.Proofs.YtbmcojelgbkafaaDoor
set_option maxRecDepth 100000
set_option maxHeartbeats 8000000
section
def codeN (x : Int) : Int := if x < 0 then -2 * x - 1 else 2 * x
def sevens : Nat → Int → List Int
 | 0, n => [n]
 | f + 1, n => if 127 < n then (n % 128 + 128) :: sevens f (n / 128) else [n]
def putN (x : Int) : List Int := if -2000000000 ≤ x ∧ x ≤ 2000000000 then sevens 4 (codeN x) else []
def topN : Nat → Int
 | 0 => 128
 | k + 1 => 128 * topN k

theorem sevens_stop (f : Nat) {n : Int} (h : ¬ 127 < n) : sevens f n = [n] := by cases f <;> simp [sevens, h]
theorem sevens_go (f : Nat) {n : Int} (h : 127 < n) : sevens (f + 1) n = (n % 128 + 128) :: sevens f (n / 128) := by simp [sevens, h]
theorem sevens_length (f : Nat) (n : Int) : (sevens f n).length ≤ f + 1 := by
 induction f generalizing n with
 | zero => simp [sevens]
 | succ f ih =>
  rw [sevens]
  split
  ·have := ih (n / 128); simp; omega
  ·simp
theorem sevens_pos (f : Nat) (n : Int) : 0 < (sevens f n).length := by cases f <;> simp [sevens]; split <;> simp
theorem sevens_byte (f : Nat) : ∀ n : Int, 0 ≤ n → n < topN f → ∀ b ∈ sevens f n, 0 ≤ b ∧ b ≤ 255 := by
 induction f with
 | zero => intro n h0 h1 b hb; simp [sevens] at hb; simp [topN] at h1; omega
 | succ f ih =>
  intro n h0 h1 b hb
  rw [sevens] at hb
  split at hb
  ·rcases List.mem_cons.1 hb with rfl | hb
   ·omega
   ·exact ih (n / 128) (by omega) (by rw [topN] at h1; omega) b hb
  ·simp at hb; omega
theorem putN_in {x : Int} (h1 : -2000000000 ≤ x) (h2 : x ≤ 2000000000) : putN x = sevens 4 (codeN x) := by simp [putN, h1, h2]
theorem putN_out {x : Int} (h : ¬ (-2000000000 ≤ x ∧ x ≤ 2000000000)) : putN x = [] := by simp only [putN, if_neg h]
theorem putN_length (x : Int) : (putN x).length ≤ 5 := by
 unfold putN; split
 ·exact sevens_length 4 _
 ·simp
theorem codeN_in {x : Int} (h1 : -2000000000 ≤ x) (h2 : x ≤ 2000000000) : 0 ≤ codeN x ∧ codeN x ≤ 4000000000 := by unfold codeN; split <;> omega
theorem putN_byte (x : Int) : ∀ b ∈ putN x, 0 ≤ b ∧ b ≤ 255 := by
 intro b hb
 by_cases h : -2000000000 ≤ x ∧ x ≤ 2000000000
 ·rw [putN_in h.1 h.2] at hb
  have := codeN_in h.1 h.2
  exact sevens_byte 4 _ this.1 (by simp [topN]; omega) b hb
 ·rw [putN_out h] at hb; cases hb

structure Formed (x : Int) (done : List Int) (k : Nat) (m : Int) : Prop where
 room : done.length + k = 4
 low : 0 ≤ m
 high : m ≤ 4000000000
 top : m < topN k
 all : done ++ sevens k m = sevens 4 (codeN x)
theorem Formed.start {x : Int} (h1 : -2000000000 ≤ x) (h2 : x ≤ 2000000000) : Formed x [] 4 (codeN x) :=
 ⟨rfl, (codeN_in h1 h2).1, (codeN_in h1 h2).2, by have := (codeN_in h1 h2).2; simp [topN]; omega, rfl⟩
theorem Formed.step {x : Int} {done : List Int} {k : Nat} {m : Int} (h : Formed x done k m) (hm : 127 < m) : ∃ k', k = k' + 1 ∧ Formed x (done ++ [m % 128 + 128]) k' (m / 128) := by
 obtain ⟨h1, h2, h3, h4, h5⟩ := h
 cases k with
 | zero => simp [topN] at h4; omega
 | succ k =>
  refine ⟨k, rfl, ?_, by omega, by omega, by rw [topN] at h4; omega, ?_⟩
  ·simp; omega
  ·rw [sevens_go k hm] at h5
   rw [← h5]; simp
theorem Formed.stop {x : Int} {done : List Int} {k : Nat} {m : Int} (h : Formed x done k m) (hm : ¬ 127 < m) : done ++ [m] = sevens 4 (codeN x) := by
 rw [← h.all, sevens_stop k hm]
end
section
open Go.RowKit

theorem Tryd.infoByte : (Tryd.prog.info? 5).map (fun i => (i.zero, i.size, i.bytes)) = some (some (.int .u8 0), 1, 1) := by kernel_rfl
def flatB (l : List Int) : List Value := l.map (Value.int .u8)
theorem flatB_length (l : List Int) : (flatB l).length = l.length := by simp [flatB]
theorem flatB_append (l m : List Int) : flatB (l ++ m) = flatB l ++ flatB m := by simp [flatB]
theorem flatB_snoc (l : List Int) (x : Int) : flatB l ++ [.int .u8 x] = flatB (l ++ [x]) := by simp [flatB]
theorem flatB_one (l : List Int) : ∀ y ∈ flatB l, y.oneCell' = true := by
 intro v hv
 obtain ⟨z, _, rfl⟩ := List.mem_map.1 hv
 rfl
theorem one_one (x : Int) : ∀ u ∈ [Value.int .u8 x], u.oneCell' = true := by intro u hu; simp at hu; subst hu; rfl
def byOf (l : List Int) (i : Nat) : Int := l.getD i 0
theorem flatB_at (l : List Int) (i : Nat) (h : i < l.length) : (flatB l)[i]? = some (.int .u8 (byOf l i)) := by
 simp [flatB, byOf, List.getD, h]
def inByte (l : List Int) : Prop := ∀ b ∈ l, 0 ≤ b ∧ b ≤ 255
theorem inByte.at {l : List Int} (h : inByte l) (i : Nat) : 0 ≤ byOf l i ∧ byOf l i ≤ 255 := by
 by_cases hi : i < l.length
 ·have := h (l[i]) (List.getElem_mem hi)
  simpa [byOf, List.getD, hi] using this
 ·simp [byOf, List.getD, List.getElem?_eq_none (Nat.le_of_not_lt hi)]
theorem Row.bytes {w : World} {v : Value} {l : List Int} (h : Row w v l.length (flatB l)) :
  ∃ (a : Option Addr) (b off cap : Nat), v = .slice a l.length cap ∧ l.length ≤ cap ∧ cap ≤ maxLen ∧ (0 < l.length → a = some ⟨b, off, none⟩) ∧
   (∀ i, i < l.length → w.cell? ⟨b, off + i, none⟩ = some (.int .u8 (byOf l i))) := by
 obtain ⟨a, b, off, cap, h1, h2, h3, h4, h5, _⟩ := h
 exact ⟨a, b, off, cap, h1, h2, h3, h4, fun i hi => h5 _ _ (flatB_at l i hi)⟩
end
section
open Go.RowKit

theorem owns_shape {w : World} {base e size n : Nat} {v : Value} {xs : List Value} (h : w.ownsRow base e size v n xs) : ∃ (a : Option Addr) (cap : Nat), v = .slice a n cap ∧ n ≤ cap ∧ cap ≤ maxLen := by
 obtain ⟨_, ⟨e, hn⟩ | ⟨g, cap', cur, e, _, _, hn, hc, _⟩⟩ := h
 ·exact ⟨none, 0, by rw [e, hn], by omega, Nat.zero_le _⟩
 ·exact ⟨_, _, e, hn, hc⟩

def markB (k : Int) (i : Nat) : Int := IntKind.u8.wrap (k + i)
def marksB (k : Int) (n : Nat) : List Int := (List.range n).map (markB k)
def midB (k : Int) (l : List Int) (i : Nat) : List Int := marksB k i ++ l.drop i
end
section
open Go.RowKit

theorem l1InN_any (x lo hi : Int) (w : World) :
  Calls Tryd.prog 27 #[.int .i64 x, .int .i64 lo, .int .i64 hi] w fun e w' => e = .returned (.bool (inB x lo hi)) ∧ w' = w := by
 by_cases h1 : lo ≤ x
 ·by_cases h2 : x ≤ hi
  ·have E : Hid (inB x lo hi = true) := inB_true h1 h2
   go_enter Tryd.func27, Tryd.ntmps27
   go_wp2
   go_ret
   exact ⟨ret_bool E.out.symm, rfl⟩
  ·have E : Hid (inB x lo hi = false) := inB_false2 h2
   go_enter Tryd.func27, Tryd.ntmps27
   go_wp2
   go_ret
   exact ⟨ret_bool E.out.symm, rfl⟩
 ·have E : Hid (inB x lo hi = false) := inB_false1 h1
  go_enter Tryd.func27, Tryd.ntmps27
  go_wp2
  go_ret
  exact ⟨ret_bool E.out.symm, rfl⟩

theorem codeOf_any (x : Int) (h1 : -2000000000 ≤ x) (h2 : x ≤ 2000000000) (w : World) :
  Calls Tryd.prog 44 #[.int .i64 x] w fun e w' => e = .returned (.int .i64 (codeN x)) ∧ w = w' := by
 by_cases h : x < 0
 ·have E : Hid (codeN x = -2 * x - 1) := by show _ = _; simp [codeN, h]
  go_enter Tryd.func44, Tryd.ntmps44
  go_wp2
  go_ret
  exact ⟨ret_int E.out.symm, rfl⟩
 ·have E : Hid (codeN x = 2 * x) := by show _ = _; simp [codeN, h]
  go_enter Tryd.func44, Tryd.ntmps44
  go_wp2
  go_ret
  exact ⟨ret_int E.out.symm, rfl⟩

def OwnB (base : Nat) (w : World) (v : Value) (l : List Int) : Prop := w.ownsRow base 5 1 v l.length (flatB l)

theorem room5 {n : Nat} (h : n ≤ 5) : n + 1 ≤ maxLen ∧ (n + 1) * 1 ≤ 140737488355328 := ⟨by unfold maxLen; omega, by omega⟩

theorem specPutNum_any (x : Int) (w : World) :
  Calls Tryd.prog 34 #[.int .i64 x] w fun e w' => ∃ v, e = .returned v ∧ OwnB w.heap.size w' v (putN x) ∧ Below w.heap.size w w' := by
 obtain ⟨i0, hi, hz0, hz1, hz2⟩ := info_parts Tryd.infoByte
 have e0 : OwnB w.heap.size (w.alloc (.cells #[] 5)) (.slice (some ⟨w.heap.size, 0, none⟩) 0 0) [] := empty_own w w.heap.size 5 1 (Nat.le_refl _)
 have b0 : Below w.heap.size w (w.alloc (.cells #[] 5)) := (Below.refl _ _).alloc (Nat.le_refl _) _
 have E0 : Hid _ := And.intro e0 b0
 clear e0 b0
 by_cases h : -2000000000 ≤ x ∧ x ≤ 2000000000
 ·have PN : Hid (putN x = sevens 4 (codeN x)) := putN_in h.1 h.2
  have IB : inB x (-2000000000) 2000000000 = true := inB_true h.1 h.2
  obtain ⟨h1, h2⟩ := h
  by_cases hx : x < 0
  ·have EC : Hid (codeN x = -2 * x - 1) := by show _ = _; simp [codeN, hx]
   go_enter Tryd.func34, Tryd.ntmps34
   go_wp2_with (go_at_call 27; refine (l1InN_any _ _ _ _).mono ?_; rintro e w1 ⟨rfl, rfl⟩)
   go_loopw [3, 4] (fun o n wr => ∃ (k : Nat) (m : Int) (done : List Int), n = .int .i64 m ∧ Formed x done k m ∧ OwnB w.heap.size wr o done ∧ Below w.heap.size w wr) (fun _ n _ => (intOf n).toNat)
   case atStart => exact ⟨4, codeN x, [], by rw [EC.out], Formed.start h1 h2, E0.out.1, E0.out.2⟩
   case round =>
    obtain ⟨k, m, done, rfl, hF, hown, hb⟩ := hrel
    have m0 := hF.low
    have m1 := hF.high
    have hd : done.length ≤ 5 := by have := hF.room; omega
    have FO : Hid (Formed x done k m) := hF
    obtain ⟨av, cv, rfl, _, _⟩ := owns_shape hown
    have OW : Hid (OwnB w.heap.size wr (.slice av done.length cv) done) := hown
    have BS := hb.size
    have BB : Hid (Below w.heap.size w wr) := hb
    clear hF hown hb
    by_cases hm : 127 < m
    ·have hw8 : IntKind.u8.wrap (m % 128 + 128) = m % 128 + 128 := by rw [IntKind.wrap_u8]; omega
     go_wp2_with (at_builtin; refine app_one wr rfl _ _ 22 rfl w.heap.size 5 i0 _ 1 1 Tryd.underlying22 hi hz0 hz1 hz2 rfl (by decide) (.slice av done.length cv) done.length (flatB done) rfl OW.out [.int .u8 (m % 128 + 128)] rfl rfl (one_one _) (room5 hd).1 (room5 hd).2 BS ?_)
     intro v' w2 ho2 _ hb2
     obtain ⟨k', rfl, hF'⟩ := FO.out.step hm
     have O2 : OwnB w.heap.size w2 v' (done ++ [m % 128 + 128]) := by
      unfold OwnB; rw [flatB_snoc] at ho2; simpa using ho2
     have P : Hid _ := And.intro hF' (And.intro O2 (BB.out.trans hb2))
     clear ho2 hb2 hF' O2 FO OW BB
     go_wp2
     go_roundw
     case rel => exact ⟨k', m / 128, _, rfl, P.out.1, P.out.2.1, P.out.2.2⟩
     case measure => simp [intOf]; omega
    ·have hw8 : IntKind.u8.wrap m = m := by rw [IntKind.wrap_u8]; omega
     go_wp2_with (at_builtin; refine app_one wr rfl _ _ 22 rfl w.heap.size 5 i0 _ 1 1 Tryd.underlying22 hi hz0 hz1 hz2 rfl (by decide) (.slice av done.length cv) done.length (flatB done) rfl OW.out [.int .u8 m] rfl rfl (one_one _) (room5 hd).1 (room5 hd).2 BS ?_)
     intro v' w2 ho2 _ hb2
     have hs := FO.out.stop (by omega)
     have O2 : OwnB w.heap.size w2 v' (done ++ [m]) := by
      unfold OwnB; rw [flatB_snoc] at ho2; simpa using ho2
     rw [hs, ← PN.out] at O2
     have P : Hid _ := And.intro O2 (BB.out.trans hb2)
     clear ho2 hb2 O2 FO OW BB hs
     go_wp2
     go_ret
     exact ⟨_, rfl, P.out.1, P.out.2⟩
  ·have EC : Hid (codeN x = 2 * x) := by show _ = _; simp [codeN, hx]
   go_enter Tryd.func34, Tryd.ntmps34
   go_wp2_with (go_at_call 27; refine (l1InN_any _ _ _ _).mono ?_; rintro e w1 ⟨rfl, rfl⟩)
   go_loopw [3, 4] (fun o n wr => ∃ (k : Nat) (m : Int) (done : List Int), n = .int .i64 m ∧ Formed x done k m ∧ OwnB w.heap.size wr o done ∧ Below w.heap.size w wr) (fun _ n _ => (intOf n).toNat)
   case atStart => exact ⟨4, codeN x, [], by rw [EC.out], Formed.start h1 h2, E0.out.1, E0.out.2⟩
   case round =>
    obtain ⟨k, m, done, rfl, hF, hown, hb⟩ := hrel
    have m0 := hF.low
    have m1 := hF.high
    have hd : done.length ≤ 5 := by have := hF.room; omega
    have FO : Hid (Formed x done k m) := hF
    obtain ⟨av, cv, rfl, _, _⟩ := owns_shape hown
    have OW : Hid (OwnB w.heap.size wr (.slice av done.length cv) done) := hown
    have BS := hb.size
    have BB : Hid (Below w.heap.size w wr) := hb
    clear hF hown hb
    by_cases hm : 127 < m
    ·have hw8 : IntKind.u8.wrap (m % 128 + 128) = m % 128 + 128 := by rw [IntKind.wrap_u8]; omega
     go_wp2_with (at_builtin; refine app_one wr rfl _ _ 22 rfl w.heap.size 5 i0 _ 1 1 Tryd.underlying22 hi hz0 hz1 hz2 rfl (by decide) (.slice av done.length cv) done.length (flatB done) rfl OW.out [.int .u8 (m % 128 + 128)] rfl rfl (one_one _) (room5 hd).1 (room5 hd).2 BS ?_)
     intro v' w2 ho2 _ hb2
     obtain ⟨k', rfl, hF'⟩ := FO.out.step hm
     have O2 : OwnB w.heap.size w2 v' (done ++ [m % 128 + 128]) := by
      unfold OwnB; rw [flatB_snoc] at ho2; simpa using ho2
     have P : Hid _ := And.intro hF' (And.intro O2 (BB.out.trans hb2))
     clear ho2 hb2 hF' O2 FO OW BB
     go_wp2
     go_roundw
     case rel => exact ⟨k', m / 128, _, rfl, P.out.1, P.out.2.1, P.out.2.2⟩
     case measure => simp [intOf]; omega
    ·have hw8 : IntKind.u8.wrap m = m := by rw [IntKind.wrap_u8]; omega
     go_wp2_with (at_builtin; refine app_one wr rfl _ _ 22 rfl w.heap.size 5 i0 _ 1 1 Tryd.underlying22 hi hz0 hz1 hz2 rfl (by decide) (.slice av done.length cv) done.length (flatB done) rfl OW.out [.int .u8 m] rfl rfl (one_one _) (room5 hd).1 (room5 hd).2 BS ?_)
     intro v' w2 ho2 _ hb2
     have hs := FO.out.stop (by omega)
     have O2 : OwnB w.heap.size w2 v' (done ++ [m]) := by
      unfold OwnB; rw [flatB_snoc] at ho2; simpa using ho2
     rw [hs, ← PN.out] at O2
     have P : Hid _ := And.intro O2 (BB.out.trans hb2)
     clear ho2 hb2 O2 FO OW BB hs
     go_wp2
     go_ret
     exact ⟨_, rfl, P.out.1, P.out.2⟩
 ·have PN : Hid (putN x = []) := putN_out h
  have IB : inB x (-2000000000) 2000000000 = false := by simp [inB]; omega
  clear h
  go_enter Tryd.func34, Tryd.ntmps34
  go_wp2_with (go_at_call 27; refine (l1InN_any _ _ _ _).mono ?_; rintro e w1 ⟨rfl, rfl⟩)
  go_ret
  rw [PN.out]
  exact ⟨_, rfl, E0.out.1, E0.out.2⟩

theorem implPutNum_any (x : Int) (w : World) :
  Calls Tryd.prog 30 #[.int .i64 x] w fun e w' => ∃ v, e = .returned v ∧ OwnB w.heap.size w' v (putN x) ∧ Below w.heap.size w w' := by
 obtain ⟨i0, hi, hz0, hz1, hz2⟩ := info_parts Tryd.infoByte
 have e0 : OwnB w.heap.size w (.slice none 0 0) [] := ⟨rfl, .inl ⟨rfl, rfl⟩⟩
 have E0 : Hid _ := And.intro e0 (Below.refl w.heap.size w)
 clear e0
 by_cases h : -2000000000 ≤ x ∧ x ≤ 2000000000
 ·have PN : Hid (putN x = sevens 4 (codeN x)) := putN_in h.1 h.2
  obtain ⟨h1, h2⟩ := h
  go_enter Tryd.func30, Tryd.ntmps30
  go_wp2_with (go_at_call 44; refine (codeOf_any _ h1 h2 _).mono ?_; rintro e w1 ⟨rfl, rfl⟩)
  go_loopw [3, 4] (fun o n wr => ∃ (k : Nat) (m : Int) (done : List Int), n = .int .i64 m ∧ Formed x done k m ∧ OwnB w.heap.size wr o done ∧ Below w.heap.size w wr) (fun _ n _ => (intOf n).toNat)
  case atStart => exact ⟨4, codeN x, [], rfl, Formed.start h1 h2, E0.out.1, E0.out.2⟩
  case round =>
   obtain ⟨k, m, done, rfl, hF, hown, hb⟩ := hrel
   have m0 := hF.low
   have m1 := hF.high
   have hd : done.length ≤ 5 := by have := hF.room; omega
   have FO : Hid (Formed x done k m) := hF
   obtain ⟨av, cv, rfl, _, _⟩ := owns_shape hown
   have OW : Hid (OwnB w.heap.size wr (.slice av done.length cv) done) := hown
   have BS := hb.size
   have BB : Hid (Below w.heap.size w wr) := hb
   clear hF hown hb
   by_cases hm : 127 < m
   ·have hw8 : IntKind.u8.wrap (m % 128 + 128) = m % 128 + 128 := by rw [IntKind.wrap_u8]; omega
    go_wp2_with (at_builtin; refine app_one wr rfl _ _ 22 rfl w.heap.size 5 i0 _ 1 1 Tryd.underlying22 hi hz0 hz1 hz2 rfl (by decide) (.slice av done.length cv) done.length (flatB done) rfl OW.out [.int .u8 (m % 128 + 128)] rfl rfl (one_one _) (room5 hd).1 (room5 hd).2 BS ?_)
    intro v' w2 ho2 _ hb2
    obtain ⟨k', rfl, hF'⟩ := FO.out.step hm
    have O2 : OwnB w.heap.size w2 v' (done ++ [m % 128 + 128]) := by
     unfold OwnB; rw [flatB_snoc] at ho2; simpa using ho2
    have P : Hid _ := And.intro hF' (And.intro O2 (BB.out.trans hb2))
    clear ho2 hb2 hF' O2 FO OW BB
    go_wp2
    go_roundw
    case rel => exact ⟨k', m / 128, _, rfl, P.out.1, P.out.2.1, P.out.2.2⟩
    case measure => simp [intOf]; omega
   ·have hw8 : IntKind.u8.wrap m = m := by rw [IntKind.wrap_u8]; omega
    go_wp2_with (at_builtin; refine app_one wr rfl _ _ 22 rfl w.heap.size 5 i0 _ 1 1 Tryd.underlying22 hi hz0 hz1 hz2 rfl (by decide) (.slice av done.length cv) done.length (flatB done) rfl OW.out [.int .u8 m] rfl rfl (one_one _) (room5 hd).1 (room5 hd).2 BS ?_)
    intro v' w2 ho2 _ hb2
    have hs := FO.out.stop (by omega)
    have O2 : OwnB w.heap.size w2 v' (done ++ [m]) := by
     unfold OwnB; rw [flatB_snoc] at ho2; simpa using ho2
    rw [hs, ← PN.out] at O2
    have P : Hid _ := And.intro O2 (BB.out.trans hb2)
    clear ho2 hb2 O2 FO OW BB hs
    go_wp2
    go_ret
    exact ⟨_, rfl, P.out.1, P.out.2⟩
 ·have PN : Hid (putN x = []) := putN_out h
  by_cases h1 : x < -2000000000
  ·clear h
   go_enter Tryd.func30, Tryd.ntmps30
   go_wp2
   go_ret
   rw [PN.out]
   exact ⟨_, rfl, E0.out.1, E0.out.2⟩
  ·have h2 : 2000000000 < x := by omega
   clear h
   go_enter Tryd.func30, Tryd.ntmps30
   go_wp2
   go_ret
   rw [PN.out]
   exact ⟨_, rfl, E0.out.1, E0.out.2⟩
end
section
open Go.RowKit

theorem Tryd.infoInt : (Tryd.prog.info? 3).map (fun i => (i.zero, i.size, i.bytes)) = some (some (.int .i64 0), 1, 8) := by kernel_rfl
def OwnI (base : Nat) (w : World) (v : Value) (l : List Int) : Prop := w.ownsRow base 3 1 v l.length (flatI l)
theorem flatI_append (l m : List Int) : flatI (l ++ m) = flatI l ++ flatI m := by simp [flatI]
theorem flatI_oneC (l : List Int) : ∀ y ∈ flatI l, y.oneCell' = true := by
 intro v hv
 obtain ⟨z, _, rfl⟩ := List.mem_map.1 hv
 rfl
theorem Row.nums {w : World} {v : Value} {l : List Int} (h : Row w v l.length (flatI l)) :
  ∃ (a : Option Addr) (b off cap : Nat), v = .slice a l.length cap ∧ l.length ≤ cap ∧ cap ≤ maxLen ∧ (0 < l.length → a = some ⟨b, off, none⟩) ∧
   (∀ i, i < l.length → w.cell? ⟨b, off + i, none⟩ = some (.int .i64 (iAt l i))) := by
 obtain ⟨a, b, off, cap, h1, h2, h3, h4, h5, _⟩ := h
 exact ⟨a, b, off, cap, h1, h2, h3, h4, fun i hi => h5 _ _ (flatI_at l i hi)⟩
theorem OwnI.row {base : Nat} {w : World} {v : Value} {l : List Int} (h : OwnI base w v l) : Row w v l.length (flatI l) := Row.of_owns h
theorem OwnB.row {base : Nat} {w : World} {v : Value} {l : List Int} (h : OwnB base w v l) : Row w v l.length (flatB l) := Row.of_owns h

abbrev okNums (l : List Int) : Prop := ∀ x ∈ l, -2000000000 ≤ x ∧ x ≤ 2000000000
theorem take_succI (l : List Int) (k : Nat) (hk : k < l.length) : l.take (k + 1) = l.take k ++ [iAt l k] := by
 rw [List.take_succ_eq_append_getElem hk]; simp [iAt, List.getD, hk]
theorem okNums_take {l : List Int} {k : Nat} (h : okNums (l.take k)) (hk : k < l.length) (hx : -2000000000 ≤ iAt l k ∧ iAt l k ≤ 2000000000) : okNums (l.take (k + 1)) := by
 rw [take_succI l k hk]
 intro x hx'
 rcases List.mem_append.1 hx' with h' | h'
 ·exact h x h'
 ·simp at h'; subst h'; exact hx
theorem okNums_not {l : List Int} {k : Nat} (hk : k < l.length) (hx : ¬ (-2000000000 ≤ iAt l k ∧ iAt l k ≤ 2000000000)) : ¬ okNums l := by
 intro h
 refine hx (h (iAt l k) ?_)
 have : iAt l k = l[k] := by simp [iAt, List.getD, hk]
 rw [this]; exact List.getElem_mem hk
def formsB (l : List Int) : List Int := l.flatMap putN
theorem formsB_length (l : List Int) : (formsB l).length ≤ 5 * l.length := by
 induction l with
 | nil => simp [formsB]
 | cons a l ih => have := putN_length a; simp only [formsB, List.flatMap_cons, List.length_append, List.length_cons] at *; omega
theorem formsB_succ (l : List Int) (k : Nat) (hk : k < l.length) : formsB (l.take (k + 1)) = formsB (l.take k) ++ putN (iAt l k) := by
 rw [take_succI l k hk]; simp [formsB]
theorem formsB_byte (l : List Int) : inByte (formsB l) := by
 intro b hb
 obtain ⟨x, _, hx⟩ := List.mem_flatMap.1 hb
 exact putN_byte x b hx

def pairNums (l : List (Int × Int)) : List Int := l.flatMap fun p => [p.1, p.2]
def msgNums (l : ML) : List Int := l.flatMap fun m => [m.1, m.2.1, m.2.2]
theorem pairNums_length (l : List (Int × Int)) : (pairNums l).length = 2 * l.length := by
 induction l with
 | nil => rfl
 | cons a l ih => simp only [pairNums, List.flatMap_cons, List.length_append, List.length_cons, List.length_nil] at *; omega
theorem msgNums_length (l : ML) : (msgNums l).length = 3 * l.length := by
 induction l with
 | nil => rfl
 | cons a l ih => simp only [msgNums, List.flatMap_cons, List.length_append, List.length_cons, List.length_nil] at *; omega
theorem pairNums_succ (l : List (Int × Int)) (k : Nat) (hk : k < l.length) : pairNums (l.take (k + 1)) = pairNums (l.take k) ++ [kOf l k, vOf l k] := by
 rw [take_succP l k hk]; simp [pairNums]
theorem msgNums_succ (l : ML) (k : Nat) (hk : k < l.length) : msgNums (l.take (k + 1)) = msgNums (l.take k) ++ [mO l k, mK l k, mV l k] := by
 have e : l[k] = (mO l k, mK l k, mV l k) := by simp [mO, mK, mV, List.getD, hk]
 rw [List.take_succ_eq_append_getElem hk, e]; simp [msgNums]
def leafNums (l : List (Int × Int)) : List Int := [1, (l.length : Int)] ++ pairNums l
def forkNums (T : Tr) (ks : List Int) : List Int := [0, (ks.length : Int)] ++ ks ++ T.cuts ++ [(T.buf.length : Int)] ++ msgNums T.buf
def nodeNums (T : Tr) (ks : List Int) : List Int := if T.leaf then leafNums T.pairs else forkNums T ks
abbrev nodeOkP (T : Tr) (ks : List Int) : Prop :=
 if T.leaf = true then ks.length = 0 ∧ T.cuts.length = 0 ∧ T.kids.length = 0 ∧ T.buf.length = 0 ∧ T.pairs.length ≤ 4
 else T.pairs.length = 0 ∧ ks.length = T.kids.length ∧ 1 ≤ ks.length ∧ ks.length ≤ 4 ∧ T.cuts.length + 1 = ks.length ∧ T.buf.length ≤ 6
theorem leafNums_length (l : List (Int × Int)) : (leafNums l).length = 2 + 2 * l.length := by simp [leafNums, pairNums_length]; omega
theorem forkNums_length (T : Tr) (ks : List Int) : (forkNums T ks).length = 3 + ks.length + T.cuts.length + 3 * T.buf.length := by simp [forkNums, msgNums_length]; omega
theorem nodeNums_length {T : Tr} {ks : List Int} (h : nodeOkP T ks) : (nodeNums T ks).length ≤ 40 := by
 unfold nodeOkP at h; unfold nodeNums
 split
 ·rename_i hl; rw [if_pos hl] at h; rw [leafNums_length]; omega
 ·rename_i hl; rw [if_neg hl] at h; rw [forkNums_length]; omega
def putNodeF (T : Tr) (ks : List Int) : Option (List Int) := if nodeOkP T ks ∧ okNums (nodeNums T ks) then some (formsB (nodeNums T ks)) else none
end
end Go.Proofs.YtbmcojelgbkafaaDoor
