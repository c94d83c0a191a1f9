/-
  A node read from its bytes, as plain functions; the program's reader: a count, a row of numbers.
-/
import Derived.Test.YtbmcojelgbkafaaDoorOfNodes35
import Derived.Test.YtbmcojelgbkafaaDoorOfNodes32
namespace Go.Proofs.YtbmcojelgbkafaaDoor
set_option maxRecDepth 100000
set_option maxHeartbeats 8000000
section
open Go.RowKit

def numsN (bs : List Int) (at_ : Int) : Nat → Option (List Int × Int)
 | 0 => some ([], at_)
 | k + 1 => match numsN bs at_ k with
  | none => none
  | some (l, p) => match getN bs p with
   | none => none
   | some (x, q) => some (l ++ [x], q)
theorem numsN_none {bs : List Int} {at_ : Int} {k : Nat} (h : numsN bs at_ k = none) : ∀ n, k ≤ n → numsN bs at_ n = none := by
 intro n hn
 induction n with
 | zero =>
  obtain rfl : k = 0 := by omega
  exact h
 | succ n ih =>
  by_cases hk : k = n + 1
  ·rw [← hk]; exact h
  ·rw [numsN, ih (by omega)]
theorem numsN_length {bs : List Int} {at_ : Int} : ∀ {k : Nat} {l : List Int} {p : Int}, numsN bs at_ k = some (l, p) → l.length = k := by
 intro k
 induction k with
 | zero => intro l p h; simp [numsN] at h; rw [h.1]; rfl
 | succ k ih =>
  intro l p h
  rw [numsN] at h
  cases hq : numsN bs at_ k with
  | none => rw [hq] at h; cases h
  | some lp =>
   obtain ⟨l', p'⟩ := lp
   rw [hq] at h
   cases hg : getN bs p' with
   | none => simp only [hg] at h; cases h
   | some xq =>
    obtain ⟨x, q⟩ := xq
    simp only [hg, Option.some.injEq, Prod.mk.injEq] at h
    rw [← h.1]; simp [ih hq]
def countN (bs : List Int) (at_ lo hi : Int) : Option (Int × Int) := match getN bs at_ with
 | none => none
 | some (x, p) => if lo ≤ x ∧ x ≤ hi then some (x, p) else none
theorem countN_in {bs : List Int} {at_ lo hi x p : Int} (h : countN bs at_ lo hi = some (x, p)) : lo ≤ x ∧ x ≤ hi ∧ getN bs at_ = some (x, p) := by
 unfold countN at h
 cases hg : getN bs at_ with
 | none => rw [hg] at h; cases h
 | some xp =>
  obtain ⟨x', p'⟩ := xp
  rw [hg] at h
  simp only at h
  split at h
  ·rename_i hc
   simp only [Option.some.injEq, Prod.mk.injEq] at h
   obtain ⟨rfl, rfl⟩ := h
   exact ⟨hc.1, hc.2, rfl⟩
  ·cases h

structure Reads (w : World) (v : Value) (bs : List Int) (P : Nat) (at_ : Int) (ea : Addr) : Prop where
 row : Row w v bs.length (flatB bs)
 byte : inByte bs
 place : PlaceIs w P at_
 err : ErrIs ea w
 pos : P ≠ 0
theorem Reads.next {w w' : World} {v : Value} {bs : List Int} {P : Nat} {at_ p : Int} {ea : Addr} (h : Reads w v bs P at_ ea) (hc : Chg (fun g => g = P) w w') (hp : PlaceIs w' P p) : Reads w' v bs P p ea :=
 ⟨h.row.apart h.place hc, h.byte, hp, h.err.apart hc h.pos, h.pos⟩
theorem Reads.below {w w' : World} {v : Value} {bs : List Int} {P : Nat} {at_ : Int} {ea : Addr} (h : Reads w v bs P at_ ea) (hb : Below w.heap.size w w') : Reads w' v bs P at_ ea :=
 ⟨h.row.below hb, h.byte, h.place.below hb, h.err.below hb, h.pos⟩
theorem Reads.num {w : World} {v : Value} {bs : List Int} {P : Nat} {at_ : Int} {ea : Addr} (h : Reads w v bs P at_ ea) :
  Calls Tryd.prog 35 #[.agg #[v, .pointer (some ⟨P, 0, none⟩)]] w fun e w' => NumPost ea P (getN bs at_) e w' ∧ Chg (fun g => g = P) w w' := num_any ea v bs P at_ w h.row h.byte h.place h.err h.pos

theorem count_any (ea : Addr) (v : Value) (bs : List Int) (P : Nat) (at_ lo hi : Int) (w : World) (h : Reads w v bs P at_ ea) :
  Calls Tryd.prog 47 #[.agg #[v, .pointer (some ⟨P, 0, none⟩)], .int .i64 lo, .int .i64 hi] w fun e w' => NumPost ea P (countN bs at_ lo hi) e w' ∧ Chg (fun g => g = P) w w' := by
 obtain ⟨av, bv, ov, cv, hv, _⟩ := id h.row
 have b0 : Below w.heap.size w (w.alloc (.cells #[v, .pointer (some ⟨P, 0, none⟩)] 48)) := (Below.refl _ _).alloc (Nat.le_refl _) _
 have H0 : Hid _ := And.intro (h.below b0) b0
 subst hv
 clear h b0
 go_enter Tryd.func47, Tryd.ntmps47
 go_wp2_with fail
 refine (H0.out.1.num).mono ?_
 rintro e w1 ⟨hn, hc⟩
 have R1 : Hid (Chg (fun g => g = P) w w1) := (Chg.of_below (F := fun g => g = P) H0.out.2).trans hc (fun _ _ h => h)
 cases hg : getN bs at_ with
 | none =>
  rw [hg] at hn
  have hn' : e = .panicked (boom ea) := hn
  subst hn'
  have G : Hid (countN bs at_ lo hi = none) := by show _ = _; unfold countN; rw [hg]
  clear hn hg hc
  go_wp2
  rw [G.out]
  exact ⟨rfl, rfl, R1.out⟩
 | some xp =>
  obtain ⟨x, p⟩ := xp
  rw [hg] at hn
  obtain ⟨rfl, p1⟩ := hn
  have E1 : Hid (ErrIs ea w1 ∧ PlaceIs w1 P p) := ⟨H0.out.1.err.apart hc H0.out.1.pos, p1⟩
  clear hc p1
  by_cases h1 : lo ≤ x
  ·by_cases h2 : x ≤ hi
   ·have G : Hid (countN bs at_ lo hi = some (x, p)) := by show _ = _; unfold countN; rw [hg]; simp only; rw [if_pos ⟨h1, h2⟩]
    clear hg
    go_wp2_with fail
    refine (demand_yes (by first | rfl | exact decide_eq_true h2 | (simp; omega)) _).mono ?_
    rintro e w2 ⟨rfl, rfl⟩
    go_wp2
    rw [G.out]
    go_ret
    exact ⟨⟨rfl, E1.out.2⟩, R1.out⟩
   ·have G : Hid (countN bs at_ lo hi = none) := by show _ = _; unfold countN; rw [hg]; simp only; rw [if_neg (fun h => h2 h.2)]
    clear hg
    go_wp2_with fail
    refine (demand_no (by first | rfl | exact decide_eq_false h2 | (simp; omega)) ea _ E1.out.1).mono ?_
    rintro e w2 ⟨rfl, rfl⟩
    go_wp2
    rw [G.out]
    exact ⟨rfl, rfl, R1.out⟩
  ·have G : Hid (countN bs at_ lo hi = none) := by show _ = _; unfold countN; rw [hg]; simp only; rw [if_neg (fun h => h1 h.1)]
   clear hg
   go_wp2_with fail
   refine (demand_no (by first | rfl | exact decide_eq_false h1 | (simp; omega)) ea _ E1.out.1).mono ?_
   rintro e w2 ⟨rfl, rfl⟩
   go_wp2
   rw [G.out]
   exact ⟨rfl, rfl, R1.out⟩

def NumsPost (ea : Addr) (P : Nat) (base : Nat) (g : Option (List Int × Int)) (e : Ending) (w' : World) : Prop := match g with
 | some (l, p) => ∃ v', e = .returned v' ∧ OwnI base w' v' l ∧ PlaceIs w' P p
 | none => e = .panicked (boom ea)

theorem nums_any (ea : Addr) (v : Value) (bs : List Int) (P : Nat) (at_ : Int) (n : Nat) (hn : n ≤ 10) (w : World) (h : Reads w v bs P at_ ea) :
  Calls Tryd.prog 48 #[.agg #[v, .pointer (some ⟨P, 0, none⟩)], .int .i64 n] w fun e w' => NumsPost ea P w.heap.size (numsN bs at_ n) e w' ∧ Chg (fun g => g = P) w w' := by
 obtain ⟨i0, hi, hz0, hz1, hz2⟩ := info_parts Tryd.infoInt
 obtain ⟨av, bv, ov, cv, hv, _⟩ := id h.row
 have hPlt := h.place.lt
 have b0 : Below w.heap.size w (w.alloc (.cells #[v, .pointer (some ⟨P, 0, none⟩)] 48)) := (Below.refl _ _).alloc (Nat.le_refl _) _
 have n0 := heap_alloc_new w (.cells #[v, .pointer (some ⟨P, 0, none⟩)] 48)
 have hs0 : (w.alloc (.cells #[v, .pointer (some ⟨P, 0, none⟩)] 48)).heap.size = w.heap.size + 1 := by simp
 generalize hW : w.alloc (.cells #[v, .pointer (some ⟨P, 0, none⟩)] 48) = W at b0 n0 hs0
 have EW : Hid _ := hW
 have H0 : Hid _ := And.intro (h.below b0) (And.intro b0 n0)
 have hWs : w.heap.size < W.heap.size := by omega
 have E0 : Hid (OwnI W.heap.size W (.slice none 0 0) []) := ⟨rfl, .inl ⟨rfl, rfl⟩⟩
 clear h b0 n0 hW hs0
 subst hv
 go_enter Tryd.func48, Tryd.ntmps48
 go_wp2_with fail
 rw [EW.out]
 go_loopw [5, 7] (fun o i wr => ∃ (k : Nat) (l : List Int) (p : Int), k ≤ n ∧ i = .int .i64 k ∧ numsN bs at_ k = some (l, p) ∧ OwnI W.heap.size wr o l ∧ PlaceIs wr P p ∧ Chg (fun g => g = P) W wr)
  (fun _ i _ => n - (intOf i).toNat)
 case atStart => exact ⟨0, [], at_, Nat.zero_le _, rfl, rfl, E0.out, H0.out.1.place, Chg.refl _ _⟩
 case round =>
  obtain ⟨k, l, p, hkn, rfl, hN, hown, hpl, hch⟩ := hrel
  have hl : l.length ≤ 10 := by rw [numsN_length hN]; omega
  have HR : Hid (Reads wr (.slice av bs.length cv) bs P p ea) := H0.out.1.next hch hpl
  have c0 : wr.cell? ⟨w.heap.size, 0, none⟩ = some (.slice av bs.length cv) := by rw [box_cell H0.out.2.2 hch (by omega)]; rfl
  have c1 : wr.cell? ⟨w.heap.size, 1, none⟩ = some (.pointer (some ⟨P, 0, none⟩)) := by rw [box_cell H0.out.2.2 hch (by omega)]; rfl
  have HW : Hid (Chg (fun g => g = P) w W) := Chg.of_below H0.out.2.1
  obtain ⟨al, ql, rfl, _, _⟩ := owns_shape hown
  by_cases hlt : k < n
  ·have BS := hch.size
   have I : Hid (OwnI W.heap.size wr (.slice al l.length ql) l ∧ Chg (fun g => g = P) W wr) := ⟨hown, hch⟩
   have HN : Hid _ := hN
   clear hown hpl hch hN
   go_wp2_with fail
   refine (HR.out.num).mono ?_
   rintro e w1 ⟨hn1, hc1⟩
   have C1 : Chg (fun g => g = P) W w1 := I.out.2.trans hc1 (fun _ _ h => h)
   cases hg : getN bs p with
   | none =>
    rw [hg] at hn1
    have hn' : e = .panicked (boom ea) := hn1
    subst hn'
    have G : Hid (numsN bs at_ n = none) := numsN_none (k := k + 1) (by rw [numsN, HN.out]; simp only [hg]) n hlt
    have FIN : Hid _ := HW.out.trans C1 (fun _ _ h => h)
    clear hn1 hg hc1 C1
    go_wp2
    rw [G.out]
    exact ⟨rfl, rfl, FIN.out⟩
   | some xq =>
    obtain ⟨x, q⟩ := xq
    rw [hg] at hn1
    obtain ⟨rfl, p1⟩ := hn1
    have G : Hid (numsN bs at_ (k + 1) = some (l ++ [x], q)) := by show _ = _; rw [numsN, HN.out]; simp only [hg]
    have o1 : OwnI W.heap.size w1 (.slice al l.length ql) l := owns_chg I.out.1 hc1 (fun g hg e => by have := (World.ownsRow.lt I.out.1 g hg).1; omega)
    have BS1 : W.heap.size ≤ (w1.alloc (.cells #[.int .i64 x] 3)).heap.size := by have := C1.size; simp; omega
    have J : Hid (OwnI W.heap.size (w1.alloc (.cells #[.int .i64 x] 3)) (.slice al l.length ql) l ∧ Row (w1.alloc (.cells #[.int .i64 x] 3)) (.slice (some ⟨w1.heap.size, 0, none⟩) 1 1) 1 (flatI [x]) ∧ PlaceIs (w1.alloc (.cells #[.int .i64 x] 3)) P q ∧ Chg (fun g => g = P) W (w1.alloc (.cells #[.int .i64 x] 3))) :=
     ⟨owns_below o1 (bel_new _ _), Row.laidN w1 (flatI [x]) 3 1 rfl (by decide), p1.below (bel_new _ _), C1.alloc _⟩
    have HRm : Hid _ := roomI (n := l.length) (m := 1) (by omega)
    clear hg hc1 C1 o1 p1 c0 c1
    go_wp2_with (at_builtin; refine app_row (w1.alloc (.cells #[.int .i64 x] 3)) rfl _ _ 25 rfl W.heap.size 3 i0 _ 1 8 Tryd.underlying25 hi hz0 hz1 hz2 rfl (by decide) (.slice al l.length ql) l.length (flatI l) rfl J.out.1 (.slice (some ⟨w1.heap.size, 0, none⟩) 1 1) 1 (flatI [x]) rfl J.out.2.1 rfl (flatI_oneC _) HRm.out.1 HRm.out.2 BS1 ?_)
    intro v2 w2 ho2 g2 _
    have O2 : OwnI W.heap.size w2 v2 (l ++ [x]) := OwnI.app (m := [x]) ho2
    have P2 : PlaceIs w2 P q := by
     have := g2.block P J.out.2.2.1.lt (fun e => by have := (World.ownsRow.lt J.out.1 P e).1; have := hlt; omega)
     unfold PlaceIs; rw [this]; exact J.out.2.2.1
    have C2 : Chg (fun g => g = P) W w2 := J.out.2.2.2.trans g2 (fun g hgl e => by have := (World.ownsRow.lt J.out.1 g e).1; omega)
    have K : Hid _ := And.intro O2 (And.intro P2 C2)
    clear O2 P2 C2 ho2 g2
    go_wp2
    go_roundw
    case rel => exact ⟨k + 1, l ++ [x], q, by omega, by go_num, G.out, K.out.1, K.out.2.1, K.out.2.2⟩
    case measure => simp [intOf]; omega
  ·have hkk : k = n := by omega
   subst hkk
   have FIN : Hid _ := And.intro hown (And.intro hpl (HW.out.trans hch (fun _ _ h => h)))
   have HN : Hid _ := hN
   clear hown hpl hch hN
   go_wp2
   rw [HN.out]
   go_ret
   exact ⟨⟨_, rfl, owns_mono FIN.out.1 (by omega), FIN.out.2.1⟩, FIN.out.2.2⟩
end
end Go.Proofs.YtbmcojelgbkafaaDoor
