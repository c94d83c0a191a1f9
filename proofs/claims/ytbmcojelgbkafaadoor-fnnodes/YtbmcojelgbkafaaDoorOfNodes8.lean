/-
  Contracts of the model's MapDo and MapAll.
  Contracts of the program's sorted map as a map of pairs: put, drop, get, turned by a message, made of a list.
  The program's sorted map made of a list of pairs, and told as one.
  The contracts of the program's MapAll and MapDo.
  The contract of the model's MapAll.
  Contracts of chapter 3's Pending and TreeGet, of the model and of the program.
  Contracts of the model's TreeMap and TreeRange.
  Contracts of the model's l4At, l4Split.
-/
import Derived.Test.YtbmcojelgbkafaaDoorOfNodes7
import Derived.Test.YtbmcojelgbkafaaDoorOfNodes2
import Derived.Test.YtbmcojelgbkafaaDoorOfNodes1
import Derived.Test.YtbmcojelgbkafaaDoorOfNodes4
import Derived.Deep.LoopGhost
import Derived.Deep.RegionWith
import Derived.Test.YtbmcojelgbkafaaDoorOfNodes6
namespace Go.Proofs.YtbmcojelgbkafaaDoor
set_option maxRecDepth 100000
set_option maxHeartbeats 8000000
section
open Go.RowKit

theorem getP_in {l : PL} (h : MapP l) (k : Int) : -1000000000 ≤ (getP l k).1 ∧ (getP l k).1 ≤ 1000000000 := by
 have hh : ∀ l : PL, (∀ p ∈ l, PairIn p) → -1000000000 ≤ (getP l k).1 ∧ (getP l k).1 ≤ 1000000000 := by
  intro l
  induction l with
  | nil => intro _; simp [getP]
  | cons p l ih =>
   intro h
   rw [getP]
   split
   ·exact (h p (by simp)).2
   ·exact ih (fun q hq => h q (by simp [hq]))
 exact hh l h.2

theorem wrap_small (x : Int) (h1 : -4000000000 ≤ x) (h2 : x ≤ 4000000000) : IntKind.i64.wrap x = x := by rw [IntKind.wrap_i64]; omega
theorem room_row {n bytes : Nat} (h : n ≤ 8388608) (hb : bytes ≤ 256) : 0 + n ≤ maxLen ∧ (0 + n) * bytes ≤ 140737488355328 := by
 refine ⟨by unfold maxLen; omega, ?_⟩
 have : (0 + n) * bytes ≤ (0 + n) * 256 := Nat.mul_le_mul_left _ hb
 omega

theorem doL_bad {l : PL} {o k v : Int} (h : mapOkB l = false ∨ msgOkB o k v = false) : doL l (o, k, v) = l := by
 unfold doL
 rw [if_neg]
 rintro ⟨h1, h2⟩
 rcases h with h | h
 ·rw [h] at h1; cases h1
 ·simp only at h2; rw [h] at h2; cases h2
theorem doL_ok {l : PL} {o k v : Int} (h1 : mapOkB l = true) (h2 : msgOkB o k v = true) : doL l (o, k, v) = doP l (o, k, v) := by
 unfold doL; rw [if_pos ⟨h1, h2⟩]

theorem specMapDo_any (va : Value) (l : PL) (o k v : Int) (w : World) (h : Row w va l.length (flatP l)) (hn : l.length ≤ 2097152) :
  Calls Tryd.prog 70 #[va, .agg #[.int .i64 o, .int .i64 k, .int .i64 v]] w fun e w' => ∃ v', e = .returned v' ∧ w'.ownsRow w.heap.size 52 2 v' (doL l (o, k, v)).length (flatP (doL l (o, k, v))) ∧ Below w.heap.size w w' := by
 obtain ⟨i0, hi, hz0, hz1, hz2⟩ := info_parts Tryd.info52
 have b0 : Below w.heap.size w (w.alloc (.cells #[.int .i64 o, .int .i64 k, .int .i64 v] 54)) := (Below.refl _ _).alloc (Nat.le_refl _) _
 have RW : Hid (Row w va l.length (flatP l)) := h
 have HR : Hid _ := room_row (n := l.length) (bytes := 16) (by omega) (by decide)
 obtain ⟨a, b, off, cap, hva, _⟩ := h.pairs
 cases hM : mapOkB l
 ·have E : Hid (doL l (o, k, v) = l) := doL_bad (Or.inl hM)
  clear h hva
  go_enter Tryd.func70, Tryd.ntmps70
  go_wp2_with fail
  refine (specMapOk_any va l _ (RW.out.below b0)).mono ?_
  rw [hM]
  rintro e w1 ⟨rfl, b1⟩
  have B1 : Below w.heap.size w w1 := Below.and b0 b1
  have B1s := B1.size
  have R1 : Row w1 va l.length (flatP l) := (RW.out.below b0).below b1
  have RR : Hid (Row w1 va l.length (flatP l)) := R1
  clear b0 b1 R1 hM
  have Hb : Hid (w.heap.size ≤ (w1.alloc (.cells #[] 52)).heap.size) := by show _ ≤ _; simp; omega
  go_wp2_with (at_builtin; refine app_row (w1.alloc (.cells #[] 52)) rfl _ _ 24 rfl w.heap.size 52 i0 _ 2 16 Tryd.underlying24 hi hz0 hz1 hz2 rfl (by decide) (.slice (some ⟨w1.heap.size, 0, none⟩) 0 0) 0 [] rfl (empty_own w1 w.heap.size 52 2 B1s) va l.length (flatP l) rfl (RR.out.below ((Below.refl _ _).alloc (Nat.le_refl _) _)) (flatP_length _) (flatP_one _) HR.out.1 HR.out.2 Hb.out ?_)
  intro v' w2 ho2 _ hb2
  have B2 : Below w.heap.size w w2 := (B1.alloc B1s _).trans hb2
  clear hb2 B1
  go_wp2
  go_ret
  rw [E.out]
  exact ⟨_, rfl, by simpa using ho2, B2⟩
 ·have hmp : MapP l := (mapOkB_iff l).1 hM
  cases hG : msgOkB o k v
  ·have E : Hid (doL l (o, k, v) = l) := doL_bad (Or.inr hG)
   clear h hva
   go_enter Tryd.func70, Tryd.ntmps70
   go_wp2_with fail
   refine (specMapOk_any va l _ (RW.out.below b0)).mono ?_
   rw [hM]
   rintro e w1 ⟨rfl, b1⟩
   have B1 : Below w.heap.size w w1 := Below.and b0 b1
   obtain ⟨hc, _⟩ := bcell b1
   have R1 : Row w1 va l.length (flatP l) := (RW.out.below b0).below b1
   have RR : Hid (Row w1 va l.length (flatP l)) := R1
   have B1' : Hid _ := B1
   clear b0 b1 R1 hM B1 hmp
   go_wp2_with fail
   refine (specMsgOk_any _ _ _ _).mono ?_
   rw [hG]
   rintro e w2 ⟨rfl, b2⟩
   have B2 : Below w.heap.size w w2 := Below.and B1'.out b2
   have R2 : Hid (Row w2 va l.length (flatP l)) := RR.out.below b2
   have B2s := B2.size
   clear hc b2 hG
   have Hb : Hid (w.heap.size ≤ (w2.alloc (.cells #[] 52)).heap.size) := by show _ ≤ _; simp; omega
   go_wp2_with (at_builtin; refine app_row (w2.alloc (.cells #[] 52)) rfl _ _ 24 rfl w.heap.size 52 i0 _ 2 16 Tryd.underlying24 hi hz0 hz1 hz2 rfl (by decide) (.slice (some ⟨w2.heap.size, 0, none⟩) 0 0) 0 [] rfl (empty_own w2 w.heap.size 52 2 B2s) va l.length (flatP l) rfl (R2.out.below ((Below.refl _ _).alloc (Nat.le_refl _) _)) (flatP_length _) (flatP_one _) HR.out.1 HR.out.2 Hb.out ?_)
   intro v' w3 ho3 _ hb3
   have B3 : Below w.heap.size w w3 := (B2.alloc B2s _).trans hb3
   clear hb3 B2
   go_wp2
   go_ret
   rw [E.out]
   exact ⟨_, rfl, by simpa using ho3, B3⟩
  ·have E : Hid (doL l (o, k, v) = doP l (o, k, v)) := doL_ok hM hG
   obtain ⟨⟨ho1, ho4⟩, ⟨hk0, hk9⟩, hv0, hv9⟩ := msgOkB_in hG
   obtain ⟨hg0, hg9⟩ := getP_in hmp k
   have ASC : Hid (Asc l) := hmp.1
   clear h hva
   go_enter Tryd.func70, Tryd.ntmps70
   go_wp2_with fail
   refine (specMapOk_any va l _ (RW.out.below b0)).mono ?_
   rw [hM]
   rintro e w1 ⟨rfl, b1⟩
   have B1 : Below w.heap.size w w1 := Below.and b0 b1
   obtain ⟨hc, _⟩ := bcell b1
   have R1 : Row w1 va l.length (flatP l) := (RW.out.below b0).below b1
   have RR : Hid (Row w1 va l.length (flatP l)) := R1
   have B1' : Hid (Below w.heap.size w w1) := B1
   have b1' : Hid _ := b1
   clear b1 R1 hM B1 hmp
   go_wp2_with fail
   refine (specMsgOk_any _ _ _ _).mono ?_
   rw [hG]
   rintro e w2 ⟨rfl, b2⟩
   have B2 : Below w.heap.size w w2 := Below.and B1'.out b2
   have R2 : Hid (Row w2 va l.length (flatP l)) := RR.out.below b2
   have b3 := Below.and b1'.out b2
   obtain ⟨hc3, _⟩ := bcell b3
   have B2' : Hid (Below w.heap.size w w2) := B2
   clear hc b2 hG b1' B1' RR b3 B2 b0
   go_wp2_with fail
   refine (specMapGet_any _ l _ _ R2.out).mono ?_
   rintro e w3 ⟨rfl, rfl⟩
   generalize hgp : getP l k = G at *
   obtain ⟨g, gb⟩ := G
   simp only at hg0 hg9
   rcases (show o = 1 ∨ o = 2 ∨ o = 3 ∨ o = 4 from by omega) with rfl | rfl | rfl | rfl
   ·have E2 : Hid (doP l (1, k, v) = putF l k v) := by show doP _ _ = _; simp [doP]
    clear hgp
    go_wp2_with fail
    refine (l1Put_any _ l _ _ _ R2.out hn ASC.out).mono ?_
    rintro e w4 ⟨v', rfl, o4, b4⟩
    go_wp2
    go_ret
    rw [E.out, E2.out]
    exact ⟨_, rfl, owns_mono o4 B2'.out.size, Below.and B2'.out b4⟩
   ·have E2 : Hid (doP l (2, k, v) = delF l k) := by show doP _ _ = _; simp [doP]
    clear hgp
    go_wp2_with fail
    refine (l1Without_any _ l _ _ R2.out (by omega)).mono ?_
    rintro e w4 ⟨v', rfl, o4, b4⟩
    go_wp2
    go_ret
    rw [E.out, E2.out]
    exact ⟨_, rfl, owns_mono o4 B2'.out.size, Below.and B2'.out b4⟩
   ·have E2 : Hid (doP l (3, k, v) = putF l k (clampI (g + v))) := by show doP _ _ = _; simp [doP, hgp]
    have hw : IntKind.i64.wrap (g + v) = g + v := wrap_small _ (by omega) (by omega)
    clear hgp
    go_wp2_with fail
    go_region_with (first | (go_at_call 73; refine (l1Clamp_any _ _).mono ?_; rintro e w' ⟨rfl, rfl⟩) | (go_at_call 78; refine (l1Put_any _ l _ _ _ (R2.out.below (by exact (Below.refl _ _).drew)) hn ASC.out).mono ?_; rintro e w4 ⟨v', rfl, o4, b4⟩))
    all_goals
     go_wp2
     go_ret
     rw [E.out, E2.out]
     exact ⟨_, rfl, owns_mono o4 B2'.out.size, B2'.out.drew.trans (b4.mono B2'.out.size)⟩
   ·have E2 : Hid (doP l (4, k, v) = l) := by show doP _ _ = _; simp [doP]
    clear hgp
    have B2s := B2'.out.size
    have Hb : Hid (w.heap.size ≤ (w3.alloc (.cells #[] 52)).heap.size) := by show _ ≤ _; simp; omega
    go_wp2_with (at_builtin; refine app_row (w3.alloc (.cells #[] 52)) rfl _ _ 24 rfl w.heap.size 52 i0 _ 2 16 Tryd.underlying24 hi hz0 hz1 hz2 rfl (by decide) (.slice (some ⟨w3.heap.size, 0, none⟩) 0 0) 0 [] rfl (empty_own w3 w.heap.size 52 2 B2s) va l.length (flatP l) rfl (R2.out.below ((Below.refl _ _).alloc (Nat.le_refl _) _)) (flatP_length _) (flatP_one _) HR.out.1 HR.out.2 Hb.out ?_)
    intro v' w4 ho3 _ hb3
    have B3 : Below w.heap.size w w4 := (B2'.out.alloc B2s _).trans hb3
    clear hb3
    go_wp2
    go_ret
    rw [E.out, E2.out]
    exact ⟨_, rfl, by simpa using ho3, B3⟩
end
section
open Go.RowKit
end
section
open Go.RowKit
end
section
open Go.RowKit
end
section
open Go.RowKit

theorem allL_succ (l : PL) (ms : ML) (k : Nat) (h : k < ms.length) : allL l (ms.take (k + 1)) = doL (allL l (ms.take k)) (mO ms k, mK ms k, mV ms k) := by
 rw [take_succM ms k h, allL, List.foldl_append]; rfl

theorem specMapAll_any (va vm : Value) (l : PL) (ms : ML) (w : World) (h : Row w va l.length (flatP l)) (hm : Row w vm ms.length (flatM ms)) (hn : l.length + ms.length ≤ 2097152) :
  Calls Tryd.prog 63 #[va, vm] w fun e w' => ∃ v', e = .returned v' ∧ w'.ownsRow w.heap.size 52 2 v' (allL l ms).length (flatP (allL l ms)) ∧ Below w.heap.size w w' := by
 obtain ⟨i0, hi, hz0, hz1, hz2⟩ := info_parts Tryd.info52
 have RW : Hid (Row w va l.length (flatP l)) := h
 have HR : Hid _ := room_row (n := l.length) (bytes := 16) (by omega) (by decide)
 have Hb : Hid (w.heap.size ≤ (w.alloc (.cells #[] 52)).heap.size) := by show _ ≤ _; simp
 obtain ⟨a, b, off, cap, rfl, hcap, hmax, ha, ho, hk, hv⟩ := hm.msgs
 unfold maxLen at hmax
 clear h
 go_enter Tryd.func63, Tryd.ntmps63
 go_wp2_with (at_builtin; refine app_row (w.alloc (.cells #[] 52)) rfl _ _ 24 rfl w.heap.size 52 i0 _ 2 16 Tryd.underlying24 hi hz0 hz1 hz2 rfl (by decide) (.slice (some ⟨w.heap.size, 0, none⟩) 0 0) 0 [] rfl (empty_own w w.heap.size 52 2 (Nat.le_refl _)) va l.length (flatP l) rfl (RW.out.below ((Below.refl _ _).alloc (Nat.le_refl _) _)) (flatP_length _) (flatP_one _) HR.out.1 HR.out.2 Hb.out ?_)
 intro v0 w0 ho0 _ hb0
 have B0 : Below w.heap.size w w0 := ((Below.refl _ _).alloc (Nat.le_refl _) _).trans hb0
 clear hb0
 go_wp2
 go_loopw [5, 6] (fun out i wr => ∃ k : Nat, k ≤ ms.length ∧ i = .int .i64 k ∧ wr.ownsRow w.heap.size 52 2 out (allL l (ms.take k)).length (flatP (allL l (ms.take k))) ∧ Below w.heap.size w wr)
  (fun _ i _ => ms.length - (intOf i).toNat)
 case atStart => exact ⟨0, Nat.zero_le _, rfl, ho0, B0⟩
 case round =>
  obtain ⟨k, hkl, rfl, hown, hb⟩ := hrel
  by_cases hlt : k < ms.length
  ·have hal := ha (by omega)
   subst hal
   have d0 := (hb.cell (by exact cell_lt (ho k hlt))).trans (ho k hlt)
   have d1 := (hb.cell (by exact cell_lt (hk k hlt))).trans (hk k hlt)
   have d2 := (hb.cell (by exact cell_lt (hv k hlt))).trans (hv k hlt)
   have DS : Hid _ := allL_succ l ms k hlt
   have hal := allL_length l (ms.take k)
   have htl : (ms.take k).length ≤ k := List.length_take_le _ _
   generalize hA : allL l (ms.take k) = A at *
   clear hA ho hk hv ho0 B0
   have OW : Hid _ := hown
   have RA : Hid (Row wr u5 A.length (flatP A)) := Row.of_owns hown
   clear hown
   go_wp2_with fail
   refine (specMapDo_any u5 A _ _ _ wr RA.out (by omega)).mono ?_
   rintro e w1 ⟨v1, rfl, o1, b1⟩
   go_wp2
   go_roundw
   case rel => exact ⟨k + 1, by omega, by go_num, by rw [DS.out]; exact owns_mono o1 hb.size, hb.trans (b1.mono hb.size)⟩
   case measure => simp [intOf]; omega
  ·go_wp2
   go_ret
   have hkk : k = ms.length := by omega
   subst hkk
   rw [List.take_of_length_le (Nat.le_refl _)] at hown
   exact ⟨_, rfl, hown, hb⟩
end
section
open Go.RowKit

def pendT (T : Tr) (k : Int) : ML := if okT T = true then pendF 7 T k else []
def getT (T : Tr) (k : Int) : Int × Bool := if okT T = true then getP (allL (leafF 7 T k).pairs (pendF 7 T k)) k else (0, false)
end
section
open Go.RowKit

def accF (m : Nat) (T : Tr) (j : Nat) : PL := T.pairs ++ ((T.kids.take j).map (mapF m)).flatten
def mapT (T : Tr) : PL := if okT T = true then mapF 7 T else []
theorem mapT_mapP (T : Tr) : MapP (mapT T) := by
 unfold mapT
 split
 ·exact (mapF_is (okT_depth (by assumption))).1
 ·exact ⟨by simp [Asc, keys], fun p hp => by simp at hp⟩
def rangeT (T : Tr) (lo hi : Int) : PL := rangeL (mapT T) lo hi
theorem app_oneL {P : Program} {ops : Array Oper} {rest : List Oper} {o : Oper} {a : Act} {Q : Exit → Act → World → Prop} (W : World) (B : Nat) (hB : W.heap.size = B) (hgd : o.guard = none) (s x : Operand) (t : TypeId)
  (ho : o.op = .call { callee := .builtin .append, args := #[s, x], argTypes := #[t, t] })
  (base : Nat) (e : TypeId) (i : TypeInfo) (z : Value) (size bytes : Nat) (ht : P.underlying t = some (.slice e)) (hi : P.info? e = some i) (hz : i.zero = some z)
  (hsize : i.size = size) (hby : i.bytes = bytes) (hzs : z.cells.size = size) (hsz : 0 < size)
  (v : Value) (n : Nat) (xs : List Value) (hs : a.eval s = v) (hown : W.ownsRow base e size v n xs)
  (news : List Value) (hx : a.eval x = .slice (some ⟨B, 0, none⟩) 1 1) (hl : news.length = size) (h1 : ∀ u ∈ news, u.oneCell' = true)
  (h63 : n + 1 ≤ maxLen) (hbytes : (n + 1) * bytes ≤ 140737488355328) (hbase : base ≤ W.heap.size)
  (h : ∀ v' w', w'.ownsRow base e size v' (n + 1) (xs ++ news) → Chg (fun g => v.ownBlock = some g) W w' → Below base W w' → (∀ g, v'.ownBlock = some g → v.ownBlock = some g ∨ g = B + 1) → wpList P ops Q rest (a.put o.dst v') w') :
  wpList P ops Q (o :: rest) a (W.alloc (.cells news.toArray e)) := by
 subst hB
 refine wpList_append_lies _ hgd s x t ho base e i z size bytes ht hi hz hsize hby hzs hsz v n xs hs (hown.alloc _) ⟨W.heap.size, 0, none⟩ 1 1 news hx (by omega) ?_ h1 (by decide) h63 hbytes (by simp; omega) (W.heap.size + 1) (by simp) ?_
 ·intro j u hj
  rw [Go.WideShapes.add_plain, Nat.zero_add, cell_of_cells (heap_alloc_new W _)]
  simpa using hj
 ·intro g cap w' h2 h3 h4 _
  have hc : Chg (fun g => v.ownBlock = some g) W w' := ((Chg.refl _ _).alloc _).trans (chg_of_grown h3) (fun _ _ e => e)
  refine h _ w' h2 hc (below_of_own hown hc hbase) (fun g' hg' => ?_)
  have : g = g' := by simpa [Value.ownBlock] using hg'
  subst this
  exact h4
end
section
open Go.RowKit

def BoxM (w : World) (B : Nat) (A : Array Value) : Prop := w.heap[B]? = some (.cells A 89 (0, 0))
theorem BoxM.start (w : World) (A : Array Value) : BoxM (w.alloc (.cells A 89)) w.heap.size A := heap_alloc_new w _
theorem BoxM.step {u w' : World} {B N : Nat} {A : Array Value} (h : BoxM u B A) (hb : Below N u w') (hN : B < N) : BoxM w' B A := (hb.block B hN).trans h
theorem BoxM.lt {u : World} {B : Nat} {A : Array Value} (h : BoxM u B A) : B < u.heap.size := (Array.getElem?_eq_some_iff.1 h).1
theorem BoxM.cells {u : World} {B : Nat} {A : Array Value} (h : BoxM u B A) : ∀ j, u.cell? ⟨B, j, none⟩ = A[j]? := fun j => cell_of_row u B j A 89 (0, 0) h
theorem BoxM.two {u : World} {B : Nat} {x0 x1 : Value} (h : BoxM u B #[x0, x1]) : u.cell? ⟨B, 0, none⟩ = some x0 ∧ u.cell? ⟨B, 1, none⟩ = some x1 := ⟨by rw [h.cells]; rfl, by rw [h.cells]; rfl⟩
theorem BoxM.free {u : World} {B : Nat} {x0 x1 : Value} (h : BoxM u B #[x0, x1]) : u.frozen? ⟨B, 0, none⟩ = false ∧ u.frozen? ⟨B, 1, none⟩ = false := ⟨frozen_of_row u B 0 _ 89 h, frozen_of_row u B 1 _ 89 h⟩
theorem BoxM.chg {w w' : World} {L : Nat} {A : Array Value} {p : Nat → Prop} (h : BoxM w L A) (hc : Chg p w w') (hp : ¬ p L) : BoxM w' L A :=
 (hc.block L (Array.getElem?_eq_some_iff.1 h).1 hp).trans h
theorem BoxM.alloc {w : World} {L : Nat} {A : Array Value} (h : BoxM w L A) (o : Obj) : BoxM (w.alloc o) L A := h.step ((Below.refl _ _).alloc (Nat.le_refl _) o) h.lt
theorem bel_boxM (w : World) (A : Array Value) : Below w.heap.size w (w.alloc (.cells A 89)) := (Below.refl _ _).alloc (Nat.le_refl _) _

theorem l4At_any (vt vc : Value) (cs : List Int) (x0 : Int) (w : World) (hc : Row w vc cs.length (flatI cs)) :
  Calls Tryd.prog 74 #[.agg #[vt, vc], .int .i64 x0] w fun e w' => e = .returned (.int .i64 (prefK cs x0 : Nat)) ∧ Below w.heap.size w w' := by
 obtain ⟨a2, b2, off2, q2, rfl, hcap2, hmax2, ha2, cc⟩ := hc.ints
 unfold maxLen at hmax2
 clear hc
 have PK : Hid (∀ n, n ≤ cs.length → (∀ i, i < n → iAt cs i ≤ x0) → (n < cs.length → ¬ iAt cs n ≤ x0) → prefK cs x0 = n) := fun n => prefK_at
 generalize prefK cs x0 = R at *
 generalize hn2 : cs.length = n2 at *
 have B0 : Hid _ := bel_boxM w #[vt, .slice a2 n2 q2]
 have S0 : Hid (BoxM _ w.heap.size _) := BoxM.start w #[vt, .slice a2 n2 q2]
 go_enter Tryd.func74, Tryd.ntmps74
 go_wp2
 go_loopw [5] (fun i wr => ∃ k' : Nat, k' ≤ n2 ∧ i = .int .i64 k' ∧ wr = w.alloc (.cells #[vt, .slice a2 n2 q2] 89) ∧ Hid (∀ i, i < k' → iAt cs i ≤ x0))
  (fun i _ => n2 - (intOf i).toNat)
 case atStart => exact ⟨0, Nat.zero_le _, rfl, rfl, fun i hi => absurd hi (Nat.not_lt_zero _)⟩
 case round =>
  obtain ⟨k', hkl, rfl, hwr, ALL⟩ := hrel
  have k0 := S0.out.two
  rw [← hwr] at k0
  obtain ⟨k0, k1⟩ := k0
  by_cases hlt : k' < n2
  ·have hal := ha2 (by omega)
   subst hal
   have d0 := (B0.out.cell (by exact cell_lt (cc k' hlt))).trans (cc k' hlt)
   rw [← hwr] at d0
   have BW : Hid (Below w.heap.size w wr) := by rw [hwr]; exact B0.out
   have WR := hid (hwr)
   clear cc ha2 hwr S0 B0
   by_cases hq : iAt cs k' ≤ x0
   ·have YS := hid (hq)
    go_wp2
    go_roundw
    case rel => exact ⟨k' + 1, by omega, by go_num, WR.out, fun i hi => if h : i < k' then ALL.out i h else by rw [show i = k' by omega]; exact YS.out⟩
    case measure => simp [intOf]; omega
   ·have E : Hid (R = k') := PK.out k' (by omega) ALL.out (fun _ => by omega)
    go_wp2
    go_ret
    exact ⟨ret_int (by rw [E.out]), BW.out⟩
  ·have E : Hid (R = k') := PK.out k' (by omega) ALL.out (fun h => absurd h hlt)
   have BW : Hid (Below w.heap.size w wr) := by rw [hwr]; exact B0.out
   clear cc ha2 hwr S0 B0
   go_wp2
   go_ret
   exact ⟨ret_int (by rw [E.out]), BW.out⟩

theorem l4Split_any (a1 : Option Addr) (n1 q1 : Nat) (vc vb : Value) (cs : List Int) (buf : ML) (i : Nat) (w : World) (hc : Row w vc cs.length (flatI cs)) (hb : Row w vb buf.length (flatM buf)) (hn : buf.length ≤ 2097152) :
  Calls Tryd.prog 66 #[.agg #[.slice a1 n1 q1, vc], vb, .int .i64 (i : Nat)] w fun e w' => ∃ v1 v2, e = .returned (.tuple #[v1, v2]) ∧ w'.ownsRow w.heap.size 54 3 v1 (mineF cs i buf).length (flatM (mineF cs i buf)) ∧ w'.ownsRow w.heap.size 54 3 v2 (restF cs i buf).length (flatM (restF cs i buf)) ∧ Below w.heap.size w w' := by
 have HC : Hid (∀ (x0 : Int) (w1 : World), Below w.heap.size w w1 → Calls Tryd.prog 74 #[.agg #[.slice a1 n1 q1, vc], .int .i64 x0] w1 fun e w' => e = .returned (.int .i64 (prefK cs x0 : Nat)) ∧ Below w1.heap.size w1 w') :=
  fun x0 w1 h => l4At_any _ vc cs x0 w1 (hc.below h)
 obtain ⟨a2, b2, off2, q2, rfl, hcap2, hmax2, ha2, cc⟩ := hc.ints
 obtain ⟨a4, b4, off4, q4, rfl, hcap4, hmax4, ha4, e0, e1, e2⟩ := hb.msgs
 obtain ⟨i0, hi0, hz0, hz1, hz2⟩ := info_parts Tryd.info54
 unfold maxLen at hmax2 hmax4
 clear hc hb cc ha2
 have MS := hid (fun j (hj : j < buf.length) => mineF_succ cs i buf j hj)
 have RS : Hid (∀ j, j < buf.length → restF cs i (buf.take (j + 1)) = if prefK cs (mK buf j) = i then restF cs i (buf.take j) else restF cs i (buf.take j) ++ [(mO buf j, mK buf j, mV buf j)]) := fun j hj => restF_succ cs i buf j hj
 have MF : Hid (mineF cs i (buf.take buf.length) = mineF cs i buf) := by show _ = _; rw [List.take_of_length_le (Nat.le_refl _)]
 have RF : Hid (restF cs i (buf.take buf.length) = restF cs i buf) := by show _ = _; rw [List.take_of_length_le (Nat.le_refl _)]
 have ML1 : Hid (∀ j, (mineF cs i (buf.take j)).length ≤ 2097152) := fun j => Nat.le_trans (mineF_length _ _ _) (Nat.le_trans (List.length_take_le' _ _) hn)
 have RL1 : Hid (∀ j, (restF cs i (buf.take j)).length ≤ 2097152) := fun j => Nat.le_trans (restF_length _ _ _) (Nat.le_trans (List.length_take_le' _ _) hn)
 have M0 : Hid (mineF cs i (buf.take 0) = []) := rfl
 have R0 : Hid (restF cs i (buf.take 0) = []) := rfl
 generalize mineF cs i buf = MM at *
 generalize restF cs i buf = RR at *
 generalize hfm : (fun j => mineF cs i (buf.take j)) = fm at *
 generalize hfr : (fun j => restF cs i (buf.take j)) = fr at *
 have hfm' : ∀ j, mineF cs i (buf.take j) = fm j := fun j => by rw [← hfm]
 have hfr' : ∀ j, restF cs i (buf.take j) = fr j := fun j => by rw [← hfr]
 simp only [hfm', hfr'] at MS RS MF RF ML1 RL1 M0 R0
 clear hfm hfm' hfr hfr'
 generalize cs.length = n2 at *
 generalize hn4 : buf.length = n4 at *
 have E1 : Hid ((((w.alloc (.cells #[.slice a1 n1 q1, .slice a2 n2 q2] 89)).alloc (.cells #[] 54)).alloc (.cells #[] 54)).ownsRow (w.heap.size + 1) 54 3 (.slice (some ⟨w.heap.size + 1, 0, none⟩) 0 0) 0 []) := by
  have := empty_own (w.alloc (.cells #[.slice a1 n1 q1, .slice a2 n2 q2] 89)) (w.heap.size + 1) 54 3 (by simp)
  rw [World.size_alloc] at this
  exact this.alloc _
 have E2 : Hid ((((w.alloc (.cells #[.slice a1 n1 q1, .slice a2 n2 q2] 89)).alloc (.cells #[] 54)).alloc (.cells #[] 54)).ownsRow (w.heap.size + 1) 54 3 (.slice (some ⟨w.heap.size + 1 + 1, 0, none⟩) 0 0) 0 []) := by
  have := empty_own ((w.alloc (.cells #[.slice a1 n1 q1, .slice a2 n2 q2] 89)).alloc (.cells #[] 54)) (w.heap.size + 1) 54 3 (by simp)
  rw [World.size_alloc, World.size_alloc] at this
  exact this
 have B0 : Hid (Below w.heap.size w (((w.alloc (.cells #[.slice a1 n1 q1, .slice a2 n2 q2] 89)).alloc (.cells #[] 54)).alloc (.cells #[] 54))) := (((Below.refl _ _).alloc (Nat.le_refl _) _).alloc (by simp) _).alloc (by simp; omega) _
 have S0 : Hid (BoxM (((w.alloc (.cells #[.slice a1 n1 q1, .slice a2 n2 q2] 89)).alloc (.cells #[] 54)).alloc (.cells #[] 54)) w.heap.size #[.slice a1 n1 q1, .slice a2 n2 q2]) := ((BoxM.start w _).alloc _).alloc _
 have Z0 : Hid (w.heap.size + 1 + 1 + 1 ≤ (((w.alloc (.cells #[.slice a1 n1 q1, .slice a2 n2 q2] 89)).alloc (.cells #[] 54)).alloc (.cells #[] 54)).heap.size) := by
  show _ ≤ _
  simp
 go_enter Tryd.func66, Tryd.ntmps66
 go_wp2
 go_loopw [8, 9, 10] (fun m r i wr => ∃ j : Nat, j ≤ n4 ∧ i = .int .i64 j ∧ Hid (wr.ownsRow (w.heap.size + 1) 54 3 m (fm j).length (flatM (fm j))) ∧ Hid (wr.ownsRow (w.heap.size + 1) 54 3 r (fr j).length (flatM (fr j))) ∧ Hid (∀ g, m.ownBlock = some g → ¬ r.ownBlock = some g) ∧ Hid (BoxM wr w.heap.size #[.slice a1 n1 q1, .slice a2 n2 q2]) ∧ Hid (Below w.heap.size w wr) ∧ Hid (w.heap.size + 1 ≤ wr.heap.size))
  (fun _ _ i _ => n4 - (intOf i).toNat)
 case atStart => exact ⟨0, Nat.zero_le _, rfl, by rw [M0.out]; exact E1, by rw [R0.out]; exact E2, fun g h1 h2 => by simp [Value.ownBlock] at h1 h2; omega, S0, B0, by have := Z0.out; show _ ≤ _; omega⟩
 case round =>
  obtain ⟨j, hj, rfl, MN, RN, DN, SN, BN, ZN⟩ := hrel
  clear E1 E2 B0 S0 Z0
  by_cases hlt : j < n4
  ·have hal := ha4 (by omega)
   subst hal
   have t0 := cell_lowB BN.out (cell_lt (e0 j hlt)) (e0 j hlt)
   have t1 := cell_lowB BN.out (cell_lt (e1 j hlt)) (e1 j hlt)
   have t2 := cell_lowB BN.out (cell_lt (e2 j hlt)) (e2 j hlt)
   have MS1 : Hid _ := MS.out j hlt
   have RS1 : Hid _ := RS.out j hlt
   have HM : Hid _ := room_of (n := (fm j).length) (bytes := 24) (Nat.le_trans (ML1.out j) (by decide)) (by decide)
   have HR : Hid _ := room_of (n := (fr j).length) (bytes := 24) (Nat.le_trans (RL1.out j) (by decide)) (by decide)
   have H1 : Hid _ := three_one (mO buf j) (mK buf j) (mV buf j)
   have HC1 : Hid _ := HC.out (mK buf j)
   obtain ⟨c0, c1⟩ := SN.out.two
   clear e0 e1 e2 ha4 HC MS RS
   generalize mO buf j = x0 at *
   generalize mK buf j = x1 at *
   generalize mV buf j = x2 at *
   generalize prefK cs x1 = P at *
   have KEEP : Hid (∀ w', Below wr.heap.size wr w' → w'.cell? ⟨w.heap.size, 0, none⟩ = some (.slice a1 n1 q1) ∧ w'.cell? ⟨w.heap.size, 1, none⟩ = some (.slice a2 n2 q2) ∧ w'.cell? ⟨b4, off4 + j * 3, none⟩ = some (.int .i64 x0) ∧ w'.cell? ⟨b4, off4 + j * 3 + 1, none⟩ = some (.int .i64 x1) ∧ w'.cell? ⟨b4, off4 + j * 3 + 2, none⟩ = some (.int .i64 x2) ∧ Hid (Below wr.heap.size wr w')) :=
    fun w' hb => ⟨cell_lowB hb (cell_lt c0) c0, cell_lowB hb (cell_lt c1) c1, cell_lowB hb (cell_lt t0) t0, cell_lowB hb (cell_lt t1) t1, cell_lowB hb (cell_lt t2) t2, hb⟩
   have S1 := KEEP.out wr.drew (Below.refl _ _).drew
   have T1 := KEEP.out wr (Below.refl _ _)
   clear c0 c1 t0 t1 t2
   go_wp2_with fail
   go_region_held3 (fun w' => w'.cell? ⟨w.heap.size, 0, none⟩ = some (.slice a1 n1 q1) ∧ w'.cell? ⟨w.heap.size, 1, none⟩ = some (.slice a2 n2 q2) ∧ w'.cell? ⟨b4, off4 + j * 3, none⟩ = some (.int .i64 x0) ∧ w'.cell? ⟨b4, off4 + j * 3 + 1, none⟩ = some (.int .i64 x1) ∧ w'.cell? ⟨b4, off4 + j * 3 + 2, none⟩ = some (.int .i64 x2) ∧ Hid (Below wr.heap.size wr w')) (assumption)
    (first
    | (go_at_call 74; refine (HC1.out _ (BN.out.trans (S1.2.2.2.2.2.out.mono BN.out.size))).mono ?_; rintro e w2 ⟨rfl, hb2⟩; have S2 := KEEP.out w2 (S1.2.2.2.2.2.out.trans (hb2.mono S1.2.2.2.2.2.out.size)); clear hb2))
   clear S1 T1 HC1
   obtain ⟨g0, g1, g2, g3, g4, BB⟩ := S2
   have B2 := hid (BN.out.trans (BB.out.mono BN.out.size))
   have M2 := owns_below MN.out BB.out
   have R2 := owns_below RN.out BB.out
   have S2 := hid (SN.out.step BB.out (by have := ZN.out; omega))
   have hz2' : w.heap.size + 1 ≤ w2.heap.size := Nat.le_trans ZN.out BB.out.size
   have LM := hid (fun g (hg : Value.ownBlock u8 = some g) => (M2.lt g hg).2)
   have LR := hid (fun g (hg : Value.ownBlock u9 = some g) => (R2.lt g hg).2)
   have LM' := hid (fun g (hg : Value.ownBlock u8 = some g) => (M2.lt g hg).1)
   have LR' := hid (fun g (hg : Value.ownBlock u9 = some g) => (R2.lt g hg).1)
   clear MN RN BN SN BB KEEP ZN
   by_cases hq : P = i
   ·have DM := hid (MS1.out.trans (if_pos hq))
    have DR := hid (RS1.out.trans (if_pos hq))
    have R2' : Hid _ := R2
    clear MS1 RS1 R2
    subst hq
    have e4 : ((P : Int) == (P : Int)) = true := by simp
    go_wp2_with (at_builtin; refine app_oneL w2 w2.heap.size rfl rfl _ _ 27 rfl (w.heap.size + 1) 54 i0 _ 3 24 Tryd.underlying27 hi0 hz0 hz1 hz2 rfl (by decide) u8 _ _ rfl M2 [.int .i64 x0, .int .i64 x1, .int .i64 x2] rfl rfl H1.out HM.out.1 HM.out.2 hz2' ?_)
    intro v5 w5 o5 c5 b5 l5
    have FIN : Hid _ := And.intro o5 (And.intro (owns_chg R2'.out c5 (fun g hg h => DN.out g h hg)) (And.intro (show ∀ g, v5.ownBlock = some g → ¬ Value.ownBlock u9 = some g from fun g hg h9 => by
     rcases l5 g hg with h | h
     ·exact DN.out g h h9
     ·have := LR.out g h9; omega) (And.intro (S2.out.chg c5 (fun h => by have := LM'.out _ h; omega)) (And.intro (B2.out.trans (b5.mono (Nat.le_succ _))) (Nat.le_trans hz2' b5.size)))))
    clear o5 b5 c5 l5 M2 g0 g1 g2 g3 g4
    go_wp2
    go_roundw
    case rel => exact ⟨j + 1, by omega, by go_num, by rw [DM.out, flatM_append, List.length_append]; exact FIN.out.1, by rw [DR.out]; exact FIN.out.2.1, FIN.out.2.2.1, FIN.out.2.2.2.1, FIN.out.2.2.2.2.1, FIN.out.2.2.2.2.2⟩
    case measure => simp [intOf]; omega
   ·have DM := hid (MS1.out.trans (if_neg hq))
    have DR := hid (RS1.out.trans (if_neg hq))
    have M2' : Hid _ := M2
    clear MS1 RS1 M2
    have e4 : ((P : Int) == (i : Int)) = false := by rw [beq_eq_false_iff_ne]; omega
    go_wp2_with (at_builtin; refine app_oneL w2 w2.heap.size rfl rfl _ _ 27 rfl (w.heap.size + 1) 54 i0 _ 3 24 Tryd.underlying27 hi0 hz0 hz1 hz2 rfl (by decide) u9 _ _ rfl R2 [.int .i64 x0, .int .i64 x1, .int .i64 x2] rfl rfl H1.out HR.out.1 HR.out.2 hz2' ?_)
    intro v5 w5 o5 c5 b5 l5
    have FIN : Hid _ := And.intro o5 (And.intro (owns_chg M2'.out c5 (fun g hg h => DN.out g hg h)) (And.intro (show ∀ g, Value.ownBlock u8 = some g → ¬ v5.ownBlock = some g from fun g h8 hg => by
     rcases l5 g hg with h | h
     ·exact DN.out g h8 h
     ·have := LM.out g h8; omega) (And.intro (S2.out.chg c5 (fun h => by have := LR'.out _ h; omega)) (And.intro (B2.out.trans (b5.mono (Nat.le_succ _))) (Nat.le_trans hz2' b5.size)))))
    clear o5 b5 c5 l5 R2 g0 g1 g2 g3 g4
    go_wp2
    go_roundw
    case rel => exact ⟨j + 1, by omega, by go_num, by rw [DM.out]; exact FIN.out.2.1, by rw [DR.out, flatM_append, List.length_append]; exact FIN.out.1, FIN.out.2.2.1, FIN.out.2.2.2.1, FIN.out.2.2.2.2.1, FIN.out.2.2.2.2.2⟩
    case measure => simp [intOf]; omega
  ·have hjj : j = n4 := by omega
   subst hjj
   clear e0 e1 e2 ha4
   rw [MF.out] at MN
   rw [RF.out] at RN
   go_wp2
   go_ret2
   exact ⟨_, _, rfl, owns_mono MN.out (Nat.le_succ _), owns_mono RN.out (Nat.le_succ _), BN.out⟩
end
end Go.Proofs.YtbmcojelgbkafaaDoor
