/-
  The model's l6Plan: whatever is taken, it answers; the list grows by at most one write a node.
  A tree's five cells as one list: whole loads and stores.
-/
import Derived.Test.YtekcnibohikmdaaOfWrites16
import Derived.Test.YtekcnibohikmdaaOfWrites23
import Derived.Test.YtekcnibohikmdaaOfWrites24
import Derived.Test.YtekcnibohikmdaaOfWrites18
import Derived.Deep.DeepCutAuto
import Derived.Deep.CutBlock
import Derived.Deep.MidRow
import Derived.Laws.Rows
namespace Go.Proofs.Ytekcnibohikmdaa
set_option maxRecDepth 100000
set_option maxHeartbeats 8000000
section
open Go.RowKit

def Lst (w : World) (B : Nat) (v : Value) (k : Nat) : Prop := ∃ l : List Wr, l.length ≤ k ∧ (∀ y ∈ l, WrOk y) ∧ OwnE w B 35 4 v l.length (flatW l)
theorem Lst.chg {F : Nat → Prop} {w w' : World} {B k : Nat} {v : Value} (h : Lst w B v k) (hc : Chg F w w') (hF : ∀ g, wrB v g → ¬ F g) : Lst w' B v k := by
 obtain ⟨l, h1, h2, h3⟩ := h
 exact ⟨l, h1, h2, h3.chg hc hF⟩
theorem Lst.below {w w' : World} {B k : Nat} {v : Value} (h : Lst w B v k) (hb : Below w.heap.size w w') : Lst w' B v k := h.chg (Chg.of_below (F := fun _ => False) hb) (fun _ _ e => e)
theorem Lst.mono {w : World} {B k k' : Nat} {v : Value} (h : Lst w B v k) (hk : k ≤ k') : Lst w B v k' := by
 obtain ⟨l, h1, h2, h3⟩ := h
 exact ⟨l, Nat.le_trans h1 hk, h2, h3⟩
theorem Lst.ty {w : World} {B k : Nat} {v : Value} (h : Lst w B v k) {g : Nat} (hg : wrB v g) : ∃ cur, w.heap[g]? = some (.cells cur 35 (0, 0)) := by
 obtain ⟨l, h1, h2, h3⟩ := h
 rcases h3 with h3 | ⟨_, _, g', h'⟩
 ·obtain ⟨k, cap, rfl, hc⟩ := hg
  exact (owns_lt h3 (g := g) rfl).2
 ·obtain ⟨k, cap, rfl, hc⟩ := hg
  simp at h'; omega
theorem wrB_tyE {w : World} {b e s n : Nat} {v : Value} {xs : List Value} (h : OwnE w b e s v n xs) {g : Nat} (hg : wrB v g) : ∃ cur, w.heap[g]? = some (.cells cur e (0, 0)) := by
 obtain ⟨k, cap, rfl, hc⟩ := hg
 rcases h with h | ⟨_, _, g', h'⟩
 ·exact (owns_lt h (g := g) rfl).2
 ·simp at h'; omega
theorem Lst.ne {w : World} {B k : Nat} {v : Value} (h : Lst w B v k) {X : Nat} {c : Array Value} {t : Nat} (hX : w.heap[X]? = some (.cells c t)) (ht : t ≠ 35) : ¬ wrB v X := by
 intro hg
 obtain ⟨cur, hc⟩ := h.ty hg
 rw [hX] at hc
 simp at hc
 exact ht hc.2
theorem Seen.ty {w : World} {G n : Nat} (h : Seen w G n) : ∃ cur, w.heap[G]? = some (.cells cur 4 (0, 0)) := by
 obtain ⟨bs, hl, o⟩ := h
 exact (owns_lt o (g := G) rfl).2

structure PlI (w0 w : World) (x : TV) (G n : Nat) (vl : Value) (k : Nat) (v : Value) (vk : Value) (ks : List Int) (u : World) : Prop where
 b : Below w0.heap.size w0 u
 bx : u.heap[w.heap.size]? = some (.cells x.cells.toArray 54)
 s : Seen u G n
 c : Chg (fun g => g = G ∨ wrB vl g) w u
 li : Lst u w0.heap.size v k
 ki : OwnE u w0.heap.size 3 1 vk ks.length (flatI ks)
 oo : ∀ g, g < w.heap.size → wrB v g → wrB vl g
 qq : ∀ g, wrB vk g → w.heap.size ≤ g
 g : G < w.heap.size
 l : w0.heap.size ≤ G
theorem PlI.low {w0 w : World} {x : TV} {G n k : Nat} {vl v vk : Value} {ks : List Int} {u u' : World} (h : PlI w0 w x G n vl k v vk ks u) (hb : Below u.heap.size u u') : PlI w0 w x G n vl k v vk ks u' :=
 ⟨h.b.trans (hb.mono h.b.size), row_chg h.bx (Chg.of_below (F := fun _ => False) hb) id, h.s.below hb, h.c.trans (Chg.of_below (F := fun g => g = G ∨ wrB vl g) hb) (fun _ _ e => e), h.li.below hb, h.ki.below hb, h.oo, h.qq, h.g, h.l⟩
theorem PlI.lo {w0 w : World} {x : TV} {G n k : Nat} {vl v vk : Value} {ks : List Int} {u : World} (h : PlI w0 w x G n vl k v vk ks u) : ∀ g, wrB v g → w0.heap.size ≤ g := by
 obtain ⟨l, _, _, h3⟩ := h.li
 exact fun g hg => (h3.lt g hg).1
theorem PlI.frame {w0 w : World} {x : TV} {G n k : Nat} {vl v vk : Value} {ks : List Int} {u u' : World} (h : PlI w0 w x G n vl k v vk ks u) (hc : Chg (fun g => g = G ∨ wrB v g) u u') :
  Below w0.heap.size w0 u' ∧ u'.heap[w.heap.size]? = some (.cells x.cells.toArray 54) ∧ Chg (fun g => g = G ∨ wrB vl g) w u' ∧ OwnE u' w0.heap.size 3 1 vk ks.length (flatI ks) := by
 have hlo := h.lo
 refine ⟨h.b.trans (hc.below (fun g _ e => ?_) h.b.size), row_chg h.bx hc (fun e => ?_), h.c.trans hc (fun g hg e => e.imp id (h.oo g hg)), h.ki.chg hc (fun g hg e => ?_)⟩
 ·rcases e with e | e
  ·have := h.l; omega
  ·exact hlo g e
 ·rcases e with e | e
  ·have := h.g; omega
  ·exact h.li.ne h.bx (by decide) e
 ·rcases e with e | e
  ·have := h.qq g hg; have := h.g; omega
  ·obtain ⟨l, _, _, h3⟩ := h.li
   exact wrB_ne h.ki h3 (by decide) hg e
def PlPost (w0 : World) (G n : Nat) (vl : Value) (k : Nat) (w : World) (e : Ending) (w' : World) : Prop :=
 ∃ (v : Value) (r : Int), e = .returned (.tuple #[v, .int .i64 r]) ∧ -1 ≤ r ∧ r < n ∧ (0 ≤ r → Lst w' w0.heap.size v k ∧ ∀ g, g < w.heap.size → wrB v g → wrB vl g) ∧ Seen w' G n ∧ Chg (fun g => g = G ∨ wrB vl g) w w'
theorem run_l6Plan (args : Array Value) (w : World) : (callFunc 28 args).run Try.prog w = .ok (.enter 28 args) w := by go_simp
theorem PlI.call {w0 w : World} {x : TV} {G n k k' : Nat} {vl v v' vk : Value} {ks : List Int} {u u' : World} (h : PlI w0 w x G n vl k v vk ks u) (hs : Seen u' G n) (hc : Chg (fun g => g = G ∨ wrB v g) u u')
  (hl : Lst u' w0.heap.size v' k') (ho : ∀ g, g < u.heap.size → wrB v' g → wrB v g) : PlI w0 w x G n vl k' v' vk ks u' := by
 obtain ⟨f1, f2, f3, f4⟩ := h.frame hc
 exact ⟨f1, f2, hs, f3, hl, f4, fun g hg e => h.oo g hg (ho g (Nat.lt_of_lt_of_le hg h.c.size) e), h.qq, h.g, h.l⟩
theorem PlI.kid {w0 w : World} {x : TV} {G n k : Nat} {vl v vk vk' : Value} {ks : List Int} {u u' : World} (h : PlI w0 w x G n vl k v vk ks u) (r : Int)
  (ho : OwnE u' w0.heap.size 3 1 vk' (ks.length + 1) (flatI ks ++ [.int .i64 r])) (hc : Chg (wrB vk) u u') (hn : ∀ g, wrB vk' g → wrB vk g ∨ u.heap.size ≤ g) : PlI w0 w x G n vl k v vk' (ks ++ [r]) u' := by
 obtain ⟨cur, hG⟩ := h.s.ty
 have hkl : ∀ g, wrB vk g → w0.heap.size ≤ g := fun g hg => (h.ki.lt g hg).1
 refine ⟨h.b.trans (hc.below (fun g _ e => hkl g e) h.b.size), row_chg h.bx hc (fun e => ?_), h.s.chg hc (fun e => ?_), h.c.trans hc (fun g hg e => absurd hg (by have := h.qq g e; omega)), h.li.chg hc (fun g hg e => ?_), ?_, h.oo, fun g e => ?_, h.g, h.l⟩
 ·obtain ⟨c2, h2⟩ := wrB_tyE h.ki e
  rw [h.bx] at h2
  simp at h2
 ·have := h.qq _ e; have := h.g; omega
 ·obtain ⟨l, _, _, h3⟩ := h.li
  exact wrB_ne h.ki h3 (by decide) e hg
 ·rw [flatI_append, show (ks ++ [r]).length = ks.length + 1 by simp]; exact ho
 ·rcases hn g e with e' | e'
  ·exact h.qq g e'
  ·exact Nat.le_trans h.c.size e'

theorem PlI.nokids {w0 w : World} {x : TV} {G n k : Nat} {vl v vk : Value} {ks : List Int} {u : World} (h : PlI w0 w x G n vl k v vk ks u) (g : Nat) : PlI w0 w x G n vl k v (.slice (some ⟨g, 0, none⟩) 0 0) [] u :=
 ⟨h.b, h.bx, h.s, h.c, h.li, OwnE.zero _ _ _ _ _, h.oo, fun _ hg => (wrB_zero _ _ hg).elim, h.g, h.l⟩
theorem PlI.up {w0 w : World} {x : TV} {G n k k' : Nat} {vl v vk : Value} {ks : List Int} {u : World} (h : PlI w0 w x G n vl k v vk ks u) (hk : k ≤ k') : PlI w0 w x G n vl k' v vk ks u :=
 ⟨h.b, h.bx, h.s, h.c, h.li.mono hk, h.ki, h.oo, h.qq, h.g, h.l⟩
theorem PlI.mark {w0 w : World} {x : TV} {G n k : Nat} {vl v vk : Value} {ks : List Int} {u : World} (h : PlI w0 w x G n vl k v vk ks u) (i : Nat) : PlI w0 w x G n vl k v vk ks (u.setCell ⟨G, i, none⟩ (.bool true)) := by
 have hc : Chg (fun g => g = G ∨ wrB v g) u (u.setCell ⟨G, i, none⟩ (.bool true)) := (Chg.refl _ _).setAt G i (Or.inl rfl) _
 obtain ⟨f1, f2, f3, f4⟩ := h.frame hc
 obtain ⟨cur, hG⟩ := h.s.ty
 exact ⟨f1, f2, h.s.set i true, f3, h.li.chg ((Chg.refl (fun g => g = G) _).setAt G i rfl _) (fun g hg e => h.li.ne hG (by decide) (e ▸ hg)), f4, h.oo, h.qq, h.g, h.l⟩
theorem strOfNums_size (l : List Int) : (strOfNums l).size = l.length := by simp [strOfNums, ByteArray.size]
theorem put_both {w w' : World} {T : Tr} {ks : List Int} {e : Ending} (h : PutPost w (putNodeF T ks) e w') : ∃ (v : Value) (b : Bool) (bs : List Int), e = .returned (.tuple #[v, .bool b]) ∧ bs.length ≤ 200 ∧ OwnB w.heap.size w' v bs := by
 cases hg : putNodeF T ks with
 | none =>
  rw [hg] at h
  obtain ⟨v, rfl, o⟩ := h
  exact ⟨v, false, [], rfl, by decide, o⟩
 | some bs =>
  rw [hg] at h
  obtain ⟨v, rfl, o⟩ := h
  exact ⟨v, true, bs, rfl, putNodeF_size hg, o⟩

theorem OwnE.rowN' {w : World} {base e size n : Nat} {v : Value} {xs : List Value} (h : OwnE w base e size v n xs) : Row w v n xs := (h.rowF).row
theorem roomJ' {n m : Nat} (h : n + m ≤ 2000000) : n + m ≤ maxLen ∧ (n + m) * 8 ≤ 140737488355328 := ⟨by unfold maxLen; omega, by omega⟩
theorem roomW {n m : Nat} (h : n + m ≤ 2000000) : n + m ≤ maxLen ∧ (n + m) * 40 ≤ 140737488355328 := ⟨by unfold maxLen; omega, by omega⟩

theorem l6Plan_step (w0 : World) (G n : Nat) (hG : w0.heap.size ≤ G) (hn : n ≤ 200) (m : Nat)
  (IH : ∀ (x : TV) (T : Tr) (vl : Value) (k : Nat) (w : World), TreeAt m w0 x T → k + sizeT m T ≤ 1000000 → Below w0.heap.size w0 w → Seen w G n → Lst w w0.heap.size vl k →
   Calls Try.prog 28 #[x.val, .slice (some ⟨G, 0, none⟩) n n, vl] w (PlPost w0 G n vl (k + sizeT m T + 1) w))
  (x : TV) (T : Tr) (vl : Value) (k : Nat) (w : World) (ht : TreeAt (m + 1) w0 x T) (hsz : k + sizeT (m + 1) T ≤ 1000000) (hb : Below w0.heap.size w0 w) (hs : Seen w G n) (hl : Lst w w0.heap.size vl k) :
  Calls Try.prog 28 #[x.val, .slice (some ⟨G, 0, none⟩) n n, vl] w (PlPost w0 G n vl (k + sizeT (m + 1) T + 1) w) := by
 obtain ⟨i0, hi, hz0, hz1, hz2⟩ := info_parts Try.info35
 obtain ⟨jj, jn, jn0, jn1, jn2⟩ := info_parts Try.infoInt
 obtain ⟨a1, a2, a3, a4, q1, q2, q3, q4, hx⟩ := ht.shape
 have TA := hid ht
 obtain ⟨_, hrp, hrc, hrb, xs, hxl, hrow, hkt⟩ := ht
 obtain ⟨_, b3, off3, q3', he3, hcap3, hmax3, ha3, c0, c1, c2, c3, c4⟩ := hrow.trees
 subst hx
 dsimp only at he3
 rw [hxl] at he3 ha3 c0 c1 c2 c3 c4 hkt hcap3
 injection he3 with e1 e2 e3
 subst e1 e3
 have hSZ : sizeT (m + 1) T = T.pairs.length + (T.cuts.length + (T.kids.length + (T.kids.map (sizeT m)).sum + T.buf.length)) := rfl
 have hsum : ∀ j, sumTo m T.kids j + T.kids.length ≤ sizeT (m + 1) T := fun j => by have := sumTo_le m T.kids j; omega
 have SUM := hid hsum
 have STP := hid (sumTo_succ m T.kids)
 have BND : Hid (T.pairs.length ≤ 1099511627776 ∧ T.cuts.length ≤ 1099511627776 ∧ T.kids.length ≤ 1099511627776 ∧ T.buf.length ≤ 1099511627776) := ⟨by omega, by omega, by omega, by omega⟩
 have hkl : T.kids.length ≤ 1000000 := by omega
 unfold maxLen at hmax3
 have HK : Hid _ := And.intro ha3 (And.intro c0 (And.intro c1 (And.intro c2 (And.intro c3 c4))))
 have KT := hid hkt
 have HI := hid IH
 have PN : Hid (∀ u, Below w0.heap.size w0 u → ∀ (v : Value) (ks : List Int), Row u v ks.length (flatI ks) → ks.length ≤ 1000000 → Calls Try.prog 37 #[.agg #[.bool T.leaf, .slice a1 T.pairs.length q1, .slice a2 T.cuts.length q2, .slice a3 T.kids.length q3, .slice a4 T.buf.length q4], v] u fun e w' => (∃ (vb : Value) (b : Bool) (bs : List Int), e = .returned (.tuple #[vb, .bool b]) ∧ bs.length ≤ 200 ∧ OwnB u.heap.size w' vb bs) ∧ Below u.heap.size u w') :=
  fun u hu v ks hr hk => (specPutNode_any (m + 1) _ T v ks u (TA.out.below hu) hr BND.out.1 BND.out.2.1 BND.out.2.2.1 BND.out.2.2.2 (by omega)).mono (fun e w' h => ⟨put_both h.1, h.2⟩)
 have al := al1 w (.cells (⟨T.leaf, .slice a1 T.pairs.length q1, .slice a2 T.cuts.length q2, .slice a3 T.kids.length q3, .slice a4 T.buf.length q4⟩ : TV).cells.toArray 54)
 have S0 : Hid (PlI w0 w ⟨T.leaf, .slice a1 T.pairs.length q1, .slice a2 T.cuts.length q2, .slice a3 T.kids.length q3, .slice a4 T.buf.length q4⟩ G n vl k vl (.slice none 0 0) [] (w.alloc (.cells (⟨T.leaf, .slice a1 T.pairs.length q1, .slice a2 T.cuts.length q2, .slice a3 T.kids.length q3, .slice a4 T.buf.length q4⟩ : TV).cells.toArray 54))) :=
  ⟨hb.trans (al.mono hb.size), heap_alloc_new _ _, hs.below al, Chg.of_below al, hl.below al, OwnE.nil _ _ _ _, fun g _ h => h, fun g h => (wrB_nil g h).elim, hs.lt, hG⟩
 generalize hX : (⟨T.leaf, .slice a1 T.pairs.length q1, .slice a2 T.cuts.length q2, .slice a3 T.kids.length q3, .slice a4 T.buf.length q4⟩ : TV) = X at *
 have EX : Hid (X.cells.toArray = #[.bool T.leaf, .slice a1 T.pairs.length q1, .slice a2 T.cuts.length q2, .slice a3 T.kids.length q3, .slice a4 T.buf.length q4]) := by subst hX; rfl
 have EV : X.val = .agg #[.bool T.leaf, .slice a1 T.pairs.length q1, .slice a2 T.cuts.length q2, .slice a3 T.kids.length q3, .slice a4 T.buf.length q4] := by subst hX; rfl
 rw [EV]
 clear hX EV al hb hs hl hkt ha3 c0 c1 c2 c3 c4 hrow hrp hrc hrb IH hsum hSZ hxl
 have SZ := hid hsz
 clear hsz
 go_enter Try.func28, Try.ntmps28
 go_upto_region 1 with fail
 rw [EX.out] at S0
 refine wp_gen (fun u => PlI w0 w X G n vl k vl (.slice none 0 0) [] u) (by have := S0.out; exact this) ?_
 intro V hV
 have JV := hid hV
 clear hV S0
 go_upto_region 2 with fail
 refine wp_gen (fun u => PlI w0 w X G n vl k vl (.slice (some ⟨V.heap.size, 0, none⟩) 0 0) [] u) ((JV.out.low (al1 _ _)).nokids _) ?_
 intro V2 hV2
 have JV2 := hid hV2
 clear hV2 JV
 go_wp2_with fail
 go_loopw [2, 8, 9] (fun l ks i wr => ∃ (j : Nat) (kk : List Int) (la ka : Option Addr) (ln lq kq : Nat), j ≤ T.kids.length ∧ i = .int .i64 j ∧ kk.length = j ∧ l = .slice la ln lq ∧ ks = .slice ka j kq ∧ Hid (PlI w0 w X G n vl (k + sumTo m T.kids j + j) (.slice la ln lq) (.slice ka j kq) kk wr)) (fun _ _ i _ => T.kids.length - (intOf i).toNat)
 case atStart =>
  obtain ⟨l0, _, _, h3⟩ := JV2.out.li
  obtain ⟨la, lq, rfl⟩ := h3.slice
  exact ⟨0, [], la, _, _, lq, _, Nat.zero_le _, rfl, rfl, rfl, rfl, JV2.out⟩
 case round =>
  obtain ⟨j, kk, la, ka, ln, lq, kq, hj, rfl, hkk, rfl, rfl, J⟩ := hrel
  clear JV2
  have bx := J.out.bx
  rw [EX.out] at bx
  have b3' : wr.cell? ⟨w.heap.size, 3, none⟩ = some (.slice a3 T.kids.length q3) := cell_of_cells bx
  by_cases hlt : j < T.kids.length
  ·have hal := HK.out.1 (by omega)
   subst hal
   obtain ⟨_, c0, c1, c2, c3, c4⟩ := HK.out
   have d0 := (J.out.b.cell (by exact cell_lt (c0 j hlt))).trans (c0 j hlt)
   have d1 := (J.out.b.cell (by exact cell_lt (c1 j hlt))).trans (c1 j hlt)
   have d2 := (J.out.b.cell (by exact cell_lt (c2 j hlt))).trans (c2 j hlt)
   have d3 := (J.out.b.cell (by exact cell_lt (c3 j hlt))).trans (c3 j hlt)
   have d4 := (J.out.b.cell (by exact cell_lt (c4 j hlt))).trans (c4 j hlt)
   have e1 := STP.out j hlt
   have e2 := SUM.out (j + 1)
   have HC := hid (HI.out (tvAt xs j) (kidT T j) (.slice la ln lq) (k + sumTo m T.kids j + j) wr (KT.out j hlt) (by have := SZ.out; show _ + sizeT m (T.kids.getD j noTr) ≤ _; omega) J.out.b J.out.s J.out.li)
   have EB : Hid (k + sumTo m T.kids j + j + sizeT m (kidT T j) + 1 = k + sumTo m T.kids (j + 1) + (j + 1)) := by show _ + sizeT m (T.kids.getD j noTr) + 1 = _; omega
   clear c0 c1 c2 c3 c4 e1 e2 bx
   go_wp2_with fail
   refine Calls.mono HC.out ?_
   rintro e w1 ⟨v1, r, rfl, hr0, hr1, hl1, hs1, hc1⟩
   by_cases hneg : r < 0
   ·have F := hid (And.intro hs1 (J.out.frame hc1))
    clear hl1 hs1 hc1 d0 d1 d2 d3 d4 b3' HC
    go_wp2
    refine bodyPost_ret (v := .tuple #[.slice la ln lq, .int .i64 (-1)]) (by simp [results, Try.results28, go_sem]) rfl ⟨_, -1, rfl, by omega, by omega, fun h => absurd h (by omega), F.out.1, F.out.2.2.2.1⟩
   ·obtain ⟨l1, lo1⟩ := hl1 (by omega)
    have J1 := hid (J.out.call hs1 hc1 l1 lo1)
    rw [EB.out] at J1
    clear hl1 hs1 hc1 d0 d1 d2 d3 d4 b3' HC J l1 lo1
    have HR := hid (roomJ' (n := kk.length) (m := 1) (by omega))
    have hbase := hid (J1.out.b.size)
    have ka1 := J1.out.ki
    rw [hkk] at ka1
    have hb9 : w0.heap.size ≤ (w1.alloc (.cells #[.int .i64 r] 3)).heap.size := by have := hbase.out; simp; omega
    have hr1 : j + 1 ≤ maxLen := by rw [← hkk]; exact HR.out.1
    have hr2 : (j + 1) * 8 ≤ 140737488355328 := by rw [← hkk]; exact HR.out.2
    have ka2 := hid (ka1.below (bel_new w1 (.cells #[.int .i64 r] 3)))
    have RL := hid (Row.laid w1 (flatI [r]) 3 _ rfl)
    clear ka1 hbase
    go_wp2_with (at_builtin; refine list_appE (w1.alloc (.cells #[.int .i64 r] 3)) rfl _ _ 50 rfl w0.heap.size 3 jj _ 1 8 Try.underlying50 jn jn0 jn1 jn2 rfl (by decide) (.slice ka j kq) j (flatI kk) rfl ka2.out (.slice (some ⟨w1.heap.size, 0, none⟩) 1 1) 1 (flatI [r]) rfl RL.out rfl (flatI_oneC _) hr1 hr2 hb9 ?_)
    intro vk2 w2 A2
    obtain ⟨o2, g2, _, n2⟩ := A2
    obtain ⟨ka', kq', hv2⟩ := o2.slice
    subst hv2
    have b2 := bel_new w1 (.cells #[.int .i64 r] 3)
    have JR := J1.out.low b2
    have J2 := hid (JR.kid r (by rw [hkk]; exact o2) g2 n2)
    clear o2 g2 n2 b2 JR J1 ka2 RL hb9 HR hr1 hr2
    go_wp2
    obtain ⟨l3, _, _, h3⟩ := J2.out.li
    obtain ⟨la', lq', hv1⟩ := h3.slice
    go_roundw
    case rel => exact ⟨j + 1, kk ++ [r], la', ka', l3.length, lq', kq', by omega, by go_num, by simp [hkk], hv1, rfl, by subst hv1; exact J2.out⟩
    case measure => simp [intOf]; omega
  ·have hje : j = T.kids.length := by omega
   subst hje
   have hie : ¬ (T.kids.length : Int) < (T.kids.length : Int) := by omega
   have JT := hid (J.out.up (k' := k + sizeT (m + 1) T) (by have := SUM.out T.kids.length; omega))
   clear HK KT HI SUM STP J bx
   have hn' : (n : Int) ≤ 200 := by omega
   go_wp2_with fail
   go_loopw [12] (fun i u => ∃ p : Nat, p ≤ n ∧ i = .int .i64 p ∧ u = wr) (fun i _ => n - (intOf i).toNat)
   case atStart => exact ⟨0, Nat.zero_le _, rfl, rfl⟩
   case round =>
    obtain ⟨p, hp, rfl, rfl⟩ := hrel
    by_cases hpn : p < n
    ·obtain ⟨b, hb1⟩ := JT.out.s.get hpn
     have hf1 := JT.out.s.live p
     have hp0 : (0 : Int) ≤ (p : Int) := by omega
     have hp1 : (p : Int) < (n : Int) := by omega
     cases b with
     | true =>
      go_wp2
      go_roundw
      case rel => exact ⟨p + 1, by omega, by go_num, trivial⟩
      case measure => simp [intOf]; omega
     | false =>
      have J1 := hid (JT.out.mark p)
      have bx := J1.out.bx
      rw [EX.out] at bx
      have x0 : (wr.setCell ⟨G, p, none⟩ (.bool true)).cell? ⟨w.heap.size, 0, none⟩ = some (.bool T.leaf) := cell_of_cells bx
      have x1 : (wr.setCell ⟨G, p, none⟩ (.bool true)).cell? ⟨w.heap.size, 1, none⟩ = some (.slice a1 T.pairs.length q1) := cell_of_cells bx
      have x2 : (wr.setCell ⟨G, p, none⟩ (.bool true)).cell? ⟨w.heap.size, 2, none⟩ = some (.slice a2 T.cuts.length q2) := cell_of_cells bx
      have x3 : (wr.setCell ⟨G, p, none⟩ (.bool true)).cell? ⟨w.heap.size, 3, none⟩ = some (.slice a3 T.kids.length q3) := cell_of_cells bx
      have x4 : (wr.setCell ⟨G, p, none⟩ (.bool true)).cell? ⟨w.heap.size, 4, none⟩ = some (.slice a4 T.buf.length q4) := cell_of_cells bx
      have ki := J1.out.ki.rowN'
      have HN := hid (PN.out (wr.setCell ⟨G, p, none⟩ (.bool true)) J1.out.b (.slice ka T.kids.length kq) kk ki (by omega))
      clear bx ki
      go_wp2_with fail
      refine Calls.mono HN.out ?_
      rintro e w1 ⟨⟨vb, ob, bs, rfl, hbl, hob⟩, hb2⟩
      have J2 := hid (J1.out.low hb2)
      have hcv := conv_own hob
      have hss := strOfNums_size bs
      generalize strOfNums bs = st at *
      clear hb2 hob HN x0 x1 x2 x3 x4 JT hb1 hf1 J1
      obtain ⟨l3, hl3, hok3, h3⟩ := J2.out.li
      obtain ⟨la', lq', hv1⟩ := h3.slice
      injection hv1 with e1 e2 e3
      subst e1 e2 e3
      have RW := roomW (n := l3.length) (m := 1) (by have := SZ.out; omega)
      have h3b := hid (h3.below (bel_new w1 (.cells #[.int .i64 p, .string st, .int .i64 0, .int .i64 0] 35)))
      have RL := hid (Row.laid w1 (flatW [((p : Int), st, 0, 0)]) 35 _ rfl)
      have hb9 : w0.heap.size ≤ (w1.alloc (.cells #[.int .i64 p, .string st, .int .i64 0, .int .i64 0] 35)).heap.size := by have := J2.out.b.size; simp; omega
      clear h3
      go_wp2_with (at_builtin; refine list_appE (w1.alloc (.cells #[.int .i64 p, .string st, .int .i64 0, .int .i64 0] 35)) rfl _ _ 28 rfl w0.heap.size 35 i0 _ 4 40 Try.underlying28 hi hz0 hz1 hz2 rfl (by decide) (.slice la l3.length lq) l3.length (flatW l3) rfl h3b.out (.slice (some ⟨w1.heap.size, 0, none⟩) 1 1) 1 (flatW [((p : Int), st, 0, 0)]) rfl RL.out rfl (flatW_one _) RW.1 RW.2 hb9 ?_)
      intro v2 w2 A2
      obtain ⟨o2, g2, _, n2⟩ := A2
      have JR := J2.out.low (bel_new w1 (.cells #[.int .i64 p, .string st, .int .i64 0, .int .i64 0] 35))
      obtain ⟨cur, hG⟩ := JR.s.ty
      have hc2 : Chg (fun g => g = G ∨ wrB (.slice la l3.length lq) g) (w1.alloc (.cells #[.int .i64 p, .string st, .int .i64 0, .int .i64 0] 35)) w2 := g2.mono (fun _ _ h => .inr h)
      have FIN := hid (And.intro (JR.s.chg g2 (fun e => JR.li.ne hG (by decide) e)) (JR.frame hc2))
      have LF : Hid (Lst w2 w0.heap.size v2 (k + sizeT (m + 1) T + 1)) := ⟨l3 ++ [((p : Int), st, 0, 0)], by simp; omega, fun y hy => by
       rcases List.mem_append.1 hy with h | h
       ·exact hok3 y h
       ·simp at h
        subst h
        exact ⟨⟨by show _ ≤ (p : Int); omega, by show (p : Int) ≤ _; omega⟩, by show st.size ≤ 200; omega⟩, by rw [flatW_append]; simpa using o2⟩
      have ON : Hid (∀ g, g < w.heap.size → wrB v2 g → wrB vl g) := fun g hg e => by
       rcases n2 g e with e' | e'
       ·exact J2.out.oo g hg e'
       ·have := JR.c.size; omega
      clear o2 g2 n2 JR hG hc2 J2 hok3 h3b RL hb9 RW
      go_wp2
      refine bodyPost_ret (v := .tuple #[v2, .int .i64 (p : Int)]) (by simp [results, Try.results28, go_sem]) rfl ⟨_, (p : Int), rfl, by omega, by omega, fun _ => ⟨LF.out, ON.out⟩, FIN.out.1, FIN.out.2.2.2.1⟩
    ·go_wp2
     refine bodyPost_ret (v := .tuple #[.slice la ln lq, .int .i64 (-1)]) (by simp [results, Try.results28, go_sem]) rfl ⟨_, -1, rfl, by omega, by omega, fun h => absurd h (by omega), JT.out.s, JT.out.c⟩

theorem l6Plan_any (w0 : World) (G n : Nat) (hG : w0.heap.size ≤ G) (hn : n ≤ 200) : ∀ (m : Nat) (x : TV) (T : Tr) (vl : Value) (k : Nat) (w : World), TreeAt m w0 x T → k + sizeT m T ≤ 1000000 → Below w0.heap.size w0 w → Seen w G n → Lst w w0.heap.size vl k →
  Calls Try.prog 28 #[x.val, .slice (some ⟨G, 0, none⟩) n n, vl] w (PlPost w0 G n vl (k + sizeT m T + 1) w)
 | 0, _, _, _, _, _, h, _, _, _, _ => h.elim
 | m + 1, x, T, vl, k, w, ht, hsz, hb, hs, hl => l6Plan_step w0 G n hG hn m (l6Plan_any w0 G n hG hn m) x T vl k w ht hsz hb hs hl
end
section
open Go.RowKit

theorem thereC {w : World} {b : Nat} {A : Array Value} {t : TypeId} (h : w.heap[b]? = some (.cells A t (0, 0))) {k : Nat} (hk : A.size = k) : w.there b 0 k := fun j hj => by
 subst hk
 rw [Nat.zero_add, cell_of_row _ _ j _ t (0, 0) h]
 exact ⟨by simp [hj], frozen_of_row w b j A t h⟩
theorem splC {cur : Array Value} {vs : List Value} (h : cur.size = vs.length) : spl cur 0 vs = vs.toArray := by
 have := spl_toList vs cur 0 (by omega)
 simp only [List.take_zero, List.nil_append, Nat.zero_add] at this
 rw [List.drop_eq_nil_of_le (by simp; omega), List.append_nil] at this
 apply Array.ext'
 simpa using this
theorem setC {W : World} {R : Nat} {t : TypeId} {A : Array Value} (h : W.heap[R]? = some (.cells A t (0, 0))) (vs : List Value) (hn : A.size = vs.length) : (W.setCells R 0 vs).heap[R]? = some (.cells vs.toArray t (0, 0)) := by
 have := heap_setCells_same R t vs 0 W A h
 rw [splC hn] at this
 exact this
def zcs : List Value := [.bool false, .slice none 0 0, .slice none 0 0, .slice none 0 0, .slice none 0 0]
def Bx (w : World) (b : Nat) (cs : List Value) : Prop := w.heap[b]? = some (.cells cs.toArray 54 (0, 0)) ∧ cs.length = 5
theorem infoT5 {cs : List Value} (h : cs.length = 5) : (Try.prog.info? 54).map (·.size) = some cs.length := by rw [h]; kernel_rfl
theorem Bx.start (w : World) {cs : List Value} (h : cs.length = 5) : Bx (w.alloc (.cells cs.toArray 54)) w.heap.size cs := ⟨heap_alloc_new w _, h⟩
theorem Bx.lt {w : World} {b : Nat} {cs : List Value} (h : Bx w b cs) : b < w.heap.size := (Array.getElem?_eq_some_iff.1 h.1).1
theorem Bx.step {w u : World} {b : Nat} {cs : List Value} (h : Bx w b cs) (k : Below w.heap.size w u) : Bx u b cs := ⟨(k.block b h.lt).trans h.1, h.2⟩
theorem Bx.rg {w : World} {b : Nat} {cs : List Value} (h : Bx w b cs) : w.rangeAt b 0 cs := fun j v hv => by
 rw [Nat.zero_add, cell_of_row _ _ j _ _ (0, 0) h.1]
 simpa using hv
theorem Bx.there {w : World} {b : Nat} {cs ds : List Value} (h : Bx w b cs) (hd : ds.length = 5) : w.there b 0 ds.toArray.size := fun j hj => by
 have hd' : ds.toArray.size = 5 := by simp [hd]
 have hc : cs.toArray.size = 5 := by simp [h.2]
 exact (thereC h.1 hc) j (by omega)
theorem Bx.set {w : World} {b : Nat} {cs ds : List Value} (h : Bx w b cs) (hd : ds.length = 5) : Bx (w.setCells b 0 ds) b ds := ⟨setC h.1 ds (by simp [h.2, hd]), hd⟩
theorem TV.cells_len (y : TV) : y.cells.length = 5 := rfl
theorem TreeAt.ones {n : Nat} {w : World} {y : TV} {T : Tr} (h : TreeAt n w y T) : y.cells.toArray.all (·.oneCell') = true := by
 obtain ⟨_, _, _, _, _, _, _, _, rfl⟩ := h.shape
 simp [TV.cells, Value.oneCell']
theorem ldT {P : Program} {ops : Array Oper} {rest : List Oper} {op : Oper} {a : Act} {w : World} {Q : Exit → Act → World → Prop} (hP : P = Try.prog) (hgd : op.guard = none) (x : Operand) (ho : op.op = .load 54 x)
  (b : Nat) (hx : a.eval x = .pointer (some ⟨b, 0, none⟩)) (cs : List Value) (hb : Bx w b cs) (h : wpList P ops Q rest (a.put op.dst (.agg cs.toArray)) w) : wpList P ops Q (op :: rest) a w := by
 subst hP
 exact wpList_load_mid hgd _ x ho b 0 hx cs _ hb.rg Try.underlying54 rfl (infoT5 hb.2) h
theorem stT {P : Program} {ops : Array Oper} {rest : List Oper} {op : Oper} {a : Act} {w : World} {Q : Exit → Act → World → Prop} (hP : P = Try.prog) (hgd : op.guard = none) (x y : Operand) (ho : op.op = .store 54 x y)
  (b : Nat) (z : TV) (hx : a.eval x = .pointer (some ⟨b, 0, none⟩)) (hy : a.eval y = z.val) {cs : List Value} (hb : Bx w b cs) (h1 : z.cells.toArray.all (·.oneCell') = true)
  (h : wpList P ops Q rest (a.put op.dst undef) (w.setCells b 0 z.cells)) : wpList P ops Q (op :: rest) a w := by
 subst hP
 exact wpList_store_mid hgd _ x y ho b 0 z.cells.toArray hx hy (hb.there rfl) (infoT5 z.cells_len) h1 h
theorem retT {fn : Func} {p : Tmp} (h : fn.results = #[.cell p 54]) (tmps : Array Value) (w : World) (g : Nat) (z : TV) (hp : tmps.getD p undef = .pointer (some ⟨g, 0, none⟩)) (hg : Bx w g z.cells) :
  (results fn tmps).run Try.prog w = .ok z.val w :=
 results_cell_row h tmps w g _ z.cells.toArray (0, 0) _ hp hg.1 Try.underlying54 rfl (infoT5 z.cells_len)
theorem put_cells {n g : Nat} {w V u : World} {y : TV} {R : Tr} {cs : List Value} (hr : Bx V g cs) (hg : w.heap.size ≤ g) (hw : Below w.heap.size w V) (hb : Below V.heap.size V u) (TY : TreeD n u (fun b => V.heap.size ≤ b) y R) :
  Bx (u.setCells g 0 y.cells) g y.cells ∧ TreeD n (u.setCells g 0 y.cells) (fun b => w.heap.size ≤ b) y R ∧ Below w.heap.size w (u.setCells g 0 y.cells) := by
 have hc : Chg (fun b => b = g) u (u.setCells g 0 y.cells) := Chg.setCells (F := fun b => b = g) (g := g) (fun _ => rfl) y.cells 0 u (Chg.refl _ _)
 have hl := hr.lt
 have h2 := Below.and hw hb
 exact ⟨(hr.step hb).set rfl, (TY.chg hc (fun b hb e => by omega)).mono (fun b hb => Nat.le_trans hw.size hb), h2.trans (hc.below (fun b _ e => by omega) h2.size)⟩
end
end Go.Proofs.Ytekcnibohikmdaa
