/-
  What GetNode tells is what PutNode was given; what is read is what PutNode writes.
  The contract of the model's DrawGetNode.
  The laws' own big and at; a row of bytes as a string.
  The laws' own sameInts, samePairs, sameMsgs of two rows of the same.
-/
import Derived.Test.YtbmcojelgbkafaaDoorOfNodes44
import Derived.Test.YtbmcojelgbkafaaDoorOfNodes42
import Derived.Test.YtbmcojelgbkafaaDoorOfNodes45
import Derived.Test.YtbmcojelgbkafaaDoorOfNodes33
import Derived.Test.YtbmcojelgbkafaaDoorOfNodes37
import Derived.Test.YtbmcojelgbkafaaDoorOfNodes18
import Derived.Test.YtbmcojelgbkafaaDoorOfNodes30
import Derived.Laws.BytesArg
import Derived.Test.YtbmcojelgbkafaaDoorOfNodes4
import Derived.Laws.StructEq
import Derived.BigQuiet
import Derived.Deep.QuietTactic
namespace Go.Proofs.YtbmcojelgbkafaaDoor
set_option maxRecDepth 100000
set_option maxHeartbeats 8000000
section
open Go.RowKit

abbrev zeroTV : TV := ⟨false, .slice none 0 0, .slice none 0 0, .slice none 0 0, .slice none 0 0⟩
def treeG : Option NodeV → Tr
 | none => ⟨false, [], [], [], []⟩
 | some n => treeV n
def kidsG : Option NodeV → List Int
 | none => []
 | some n => kidsV n
theorem made_trees (n : Nat) : (madeCells #[.bool false, .slice none 0 0, .slice none 0 0, .slice none 0 0, .slice none 0 0] (n * 5)).toList = flatT (List.replicate n zeroTV) := by
 apply List.ext_getElem?
 intro j
 by_cases hj : j < n * 5
 ·have hi : j / 5 < (List.replicate n zeroTV).length := by simp; omega
  have hat := flatT_at (List.replicate n zeroTV) (j / 5) hi
  have hz : tvAt (List.replicate n zeroTV) (j / 5) = zeroTV := by simp [tvAt, List.getD, show j / 5 < n by omega]
  rw [hz] at hat
  simp only [zeroTV] at hat
  have hc : (madeCells #[.bool false, .slice none 0 0, .slice none 0 0, .slice none 0 0, .slice none 0 0] (n * 5)).toList[j]? = some ((#[.bool false, .slice none 0 0, .slice none 0 0, .slice none 0 0, .slice none 0 0] : Array Value)[j % 5]!) := by simp [madeCells, hj]
  rw [hc]
  rcases (show j % 5 = 0 ∨ j % 5 = 1 ∨ j % 5 = 2 ∨ j % 5 = 3 ∨ j % 5 = 4 by omega) with h | h | h | h | h
  ·rw [h, ← (show j / 5 * 5 = j by omega)]; exact hat.1.symm
  ·rw [h, ← (show j / 5 * 5 + 1 = j by omega)]; exact hat.2.1.symm
  ·rw [h, ← (show j / 5 * 5 + 2 = j by omega)]; exact hat.2.2.1.symm
  ·rw [h, ← (show j / 5 * 5 + 3 = j by omega)]; exact hat.2.2.2.1.symm
  ·rw [h, ← (show j / 5 * 5 + 4 = j by omega)]; exact hat.2.2.2.2.symm
 ·rw [List.getElem?_eq_none (by simp [madeCells]; omega), List.getElem?_eq_none (by rw [flatT_length]; simp; omega)]
theorem kids_own {w : World} {M n : Nat} (h : w.heap[M]? = some (.cells (madeCells #[.bool false, .slice none 0 0, .slice none 0 0, .slice none 0 0, .slice none 0 0] (n * 5)) 29 (0, 0))) (hn : n ≤ 10) : w.ownsRow M 29 5 (.slice (some ⟨M, 0, none⟩) n n) n (flatT (List.replicate n zeroTV)) := by
 refine ⟨by rw [flatT_length]; simp, .inr ⟨M, n, _, rfl, Nat.le_refl _, h, Nat.le_refl _, by unfold maxLen; omega, by simp [madeCells], ?_⟩⟩
 rw [made_trees, List.take_of_length_le (by rw [flatT_length]; simp)]
theorem rowZ (w : World) : Row w (.slice none 0 0) 0 [] := ⟨none, 0, 0, 0, rfl, Nat.le_refl _, Nat.zero_le _, fun h => absurd h (Nat.lt_irrefl _), fun j u hj => by simp at hj, fun _ => rfl⟩

theorem OwnE.rowN {w : World} {base e size n : Nat} {v : Value} {xs : List Value} (h : OwnE w base e size v n xs) : Row w v n xs := (h.rowF).row
theorem NodeAt.tree {base : Nat} {w : World} {vt vk : Value} {n : NodeV} (h : NodeAt base w vt vk n) (hok : okV n) : (∃ x : TV, vt = x.val ∧ TreeAt 2 w x (treeV n)) ∧ Row w vk (kidsV n).length (flatI (kidsV n)) := by
 have rn := rowZ w
 cases n with
 | inl l =>
  obtain ⟨vp, rfl, rfl, o⟩ := h
  exact ⟨⟨⟨true, vp, .slice none 0 0, .slice none 0 0, .slice none 0 0⟩, rfl, TreeAt.mk rfl o.rowN rn rn ⟨[], rfl, rn, fun i hi => absurd hi (Nat.not_lt_zero _)⟩⟩, rn⟩
 | inr f =>
  obtain ⟨vc, vb, M, N, rfl, h2, h3, h4, h5, h6, h7, h8⟩ := h
  have ok := kids_own h8 (by have := hok.2.1; omega)
  refine ⟨⟨⟨false, .slice none 0 0, vc, .slice (some ⟨M, 0, none⟩) f.kids.length f.kids.length, vb⟩, rfl, TreeAt.mk rfl rn (Row.of_owns h5) h6.rowN ⟨List.replicate f.kids.length zeroTV, by simp [treeV], ?_, ?_⟩⟩, Row.of_owns h3⟩
  ·rw [List.length_replicate]; exact Row.of_owns ok
  ·intro i hi
   rw [List.length_replicate] at hi
   have e1 : tvAt (List.replicate f.kids.length zeroTV) i = zeroTV := by simp [tvAt, List.getD, hi]
   have e2 : (treeV (.inr f)).kids.getD i noTr = ⟨false, [], [], [], []⟩ := by simp [treeV, List.getD, hi]
   rw [e1, e2]
   exact TreeAt.mk rfl rn rn rn ⟨[], rfl, rn, fun i hi => absurd hi (Nat.not_lt_zero _)⟩
theorem rowG (w : World) (g : Nat) : Row w (.slice (some ⟨g, 0, none⟩) 0 0) 0 [] := ⟨some ⟨g, 0, none⟩, g, 0, 0, rfl, Nat.le_refl _, Nat.zero_le _, fun h => absurd h (Nat.lt_irrefl _), fun j u hj => by simp at hj, fun h => by cases h⟩
theorem treeZ_at (w : World) : TreeAt 2 w zeroTV (treeG none) := by
 have rn := rowZ w
 exact TreeAt.mk rfl rn rn rn ⟨[], rfl, rn, fun i hi => absurd hi (Nat.not_lt_zero _)⟩

def nodeOf (T : Tr) (ks : List Int) : NodeV := if T.leaf = true then .inl T.pairs else .inr ⟨ks, T.cuts, T.buf⟩
theorem put_get {T : Tr} {ks bs : List Int} (h : putNodeF T ks = some bs) :
  getNodeF bs = some (nodeOf T ks) ∧ okV (nodeOf T ks) ∧ inByte bs ∧ bs.length ≤ 200 ∧ (treeV (nodeOf T ks)).leaf = T.leaf ∧ (treeV (nodeOf T ks)).pairs = T.pairs ∧ (treeV (nodeOf T ks)).cuts = T.cuts ∧ (treeV (nodeOf T ks)).buf = T.buf ∧ kidsV (nodeOf T ks) = ks := by
 unfold putNodeF at h
 split at h
 ·rename_i hk
  obtain ⟨hok, hnum⟩ := hk
  have hlen := nodeNums_length hok
  have hfl := formsB_length (nodeNums T ks)
  have hb : formsB (nodeNums T ks) = bs := by simpa using h
  have key : okV (nodeOf T ks) ∧ numsV (nodeOf T ks) = nodeNums T ks ∧ (treeV (nodeOf T ks)).leaf = T.leaf ∧ (treeV (nodeOf T ks)).pairs = T.pairs ∧ (treeV (nodeOf T ks)).cuts = T.cuts ∧ (treeV (nodeOf T ks)).buf = T.buf ∧ kidsV (nodeOf T ks) = ks := by
   unfold nodeOf nodeNums
   by_cases hl : T.leaf = true
   ·rw [nodeOkP, if_pos hl] at hok
    obtain ⟨k1, k2, k3, k4, k5⟩ := hok
    rw [if_pos hl, if_pos hl]
    exact ⟨k5, rfl, hl.symm, rfl, (List.length_eq_zero_iff.1 k2).symm, (List.length_eq_zero_iff.1 k4).symm, (List.length_eq_zero_iff.1 k1).symm⟩
   ·rw [nodeOkP, if_neg hl] at hok
    obtain ⟨k1, k2, k3, k4, k5, k6⟩ := hok
    rw [if_neg hl, if_neg hl]
    exact ⟨⟨k3, k4, k5, k6⟩, rfl, by cases hq : T.leaf <;> simp_all [treeV], (List.length_eq_zero_iff.1 k1).symm, rfl, rfl, rfl⟩
  obtain ⟨k1, k2, k3⟩ := key
  have := getNodeF_of (n := nodeOf T ks) (by rw [k2]; exact hnum) k1
  rw [k2, hb] at this
  exact ⟨this, k1, by rw [← hb]; exact formsB_byte _, by rw [← hb]; omega, k3⟩
 ·cases h
theorem get_put {R : List Int} (hR : inByte R) {n : NodeV} (h : getNodeF R = some n) : putNodeF (treeV n) (kidsV n) = some R := by
 obtain ⟨h1, h2, h3⟩ := getNodeF_put hR h
 rw [(putNodeF_V n).1 ⟨h3, h2⟩, h1]
theorem getNode_told (ea : Addr) (T : Tr) (ks bs : List Int) (v : Value) (w : World) (hp : putNodeF T ks = some bs) (hr : Row w v bs.length (flatB bs)) (he : ErrIs ea w) :
  Calls Tryd.prog 8 #[v] w fun e w' => (∃ (z : TV) (vk : Value) (U : Tr), e = .returned (.tuple #[z.val, vk, .bool true]) ∧ TreeAt 2 w' z U ∧ (U.leaf = T.leaf ∧ U.pairs = T.pairs ∧ U.cuts = T.cuts ∧ U.buf = T.buf) ∧ Row w' vk ks.length (flatI ks)) ∧ Below w.heap.size w w' := by
 obtain ⟨h1, h2, h3, _, h4, h5, h6, h7, h8⟩ := put_get hp
 refine (implGetNode_any ea v bs w hr h3 he).mono fun e w' h => ⟨?_, h.2⟩
 have hg := h.1
 unfold GetNodePost at hg
 rw [h1] at hg
 obtain ⟨vt, vk, rfl, hn⟩ := hg
 obtain ⟨⟨x, rfl, ht⟩, hk⟩ := hn.tree h2
 rw [h8] at hk
 exact ⟨x, vk, _, rfl, ht, ⟨h4, h5, h6, h7⟩, hk⟩
theorem getNode_i (ea : Addr) (R : List Int) (v : Value) (w : World) (hR : inByte R) (hr : Row w v R.length (flatB R)) (he : ErrIs ea w) :
  Calls Tryd.prog 8 #[v] w fun e w' => (∃ (z : TV) (vk : Value), e = .returned (.tuple #[z.val, vk, .bool (getNodeF R).isSome]) ∧ TreeAt 2 w' z (treeG (getNodeF R)) ∧ Row w' vk (kidsG (getNodeF R)).length (flatI (kidsG (getNodeF R)))) ∧ Below w.heap.size w w' := by
 refine (implGetNode_any ea v R w hr hR he).mono fun e w' h => ⟨?_, h.2⟩
 have hg := h.1
 unfold GetNodePost at hg
 cases hG : getNodeF R with
 | none =>
  rw [hG] at hg
  exact ⟨zeroTV, _, hg, treeZ_at w', rowZ w'⟩
 | some n =>
  rw [hG] at hg
  obtain ⟨vt, vk, rfl, hn⟩ := hg
  obtain ⟨⟨x, rfl, ht⟩, hk⟩ := hn.tree (getNodeF_put hR hG).2.2
  exact ⟨x, vk, rfl, ht, hk⟩
theorem getNode_s (R : List Int) (v : Value) (w : World) (hR : inByte R) (hr : Row w v R.length (flatB R)) (hn : R.length ≤ 1099511627776) :
  Calls Tryd.prog 13 #[v] w fun e w' => (∃ (z : TV) (vk : Value), e = .returned (.tuple #[z.val, vk, .bool (getNodeF R).isSome]) ∧ TreeAt 2 w' z (treeG (getNodeF R)) ∧ Row w' vk (kidsG (getNodeF R)).length (flatI (kidsG (getNodeF R)))) ∧ Below w.heap.size w w' := by
 refine (specGetNode_any v R w hr hR hn).mono fun e w' h => ⟨?_, h.2⟩
 have hg := h.1
 unfold SNodePost at hg
 cases hG : getNodeF R with
 | none =>
  rw [hG] at hg
  obtain ⟨g, rfl⟩ := hg
  exact ⟨zeroTV, _, rfl, treeZ_at w', rowG w' g⟩
 | some n =>
  rw [hG] at hg
  obtain ⟨x, vk, rfl, ht, hk⟩ := hg
  exact ⟨x, vk, rfl, ht, hk⟩
end
section
open Go.RowKit

def BytesDrawn (w : World) (e : Ending) (w' : World) : Prop := ∃ (v : Value) (R : List Int), e = .returned v ∧ Row w' v R.length (flatB R) ∧ inByte R ∧ R.length ≤ 1000 ∧ Below w.heap.size w w'
theorem PutPost.told {w w' : World} {T : Tr} {ks : List Int} {e : Ending} (h : PutPost w (putNodeF T ks) e w') : ∃ (v : Value) (ok : Bool) (R : List Int), e = .returned (.tuple #[v, .bool ok]) ∧ OwnB w.heap.size w' v R ∧ inByte R ∧ R.length ≤ 200 := by
 cases hp : putNodeF T ks with
 | none =>
  rw [hp] at h
  obtain ⟨v, rfl, o⟩ := h
  exact ⟨v, _, [], rfl, o, fun b hb => (by simp at hb), by simp⟩
 | some bs =>
  rw [hp] at h
  obtain ⟨v, rfl, o⟩ := h
  obtain ⟨_, _, h3, h4, _⟩ := put_get hp
  exact ⟨v, _, bs, rfl, o, h3, h4⟩
theorem own_set {w : World} {base g q : Nat} {R : List Int} (h : OwnB base w (.slice (some ⟨g, 0, none⟩) R.length q) R) {i : Nat} (hi : i < R.length) (y : Int) : Row (w.setCell ⟨g, i, none⟩ (.int .u8 y)) (.slice (some ⟨g, 0, none⟩) R.length q) R.length (flatB (R.set i y)) := by
 have h0 := h
 obtain ⟨_, ⟨e, _⟩ | ⟨g', cap, cur, e, _, hh, hn, hm, hsz, _⟩⟩ := h
 ·cases e
 ·simp at e
  obtain ⟨rfl, rfl⟩ := e
  refine ⟨some ⟨g, 0, none⟩, g, 0, q, rfl, hn, hm, fun _ => rfl, fun j u hj => ?_, fun h => by cases h⟩
  have hjl : j < R.length := by
   have := (List.getElem?_eq_some_iff.1 hj).1
   simpa [flatB] using this
  have hold := World.ownsRow.cellAt h0 j (by omega)
  rw [Nat.zero_add]
  by_cases hij : j = i
  ·subst hij
   have hu : u = .int .u8 y := by simpa [flatB, hjl] using hj.symm
   subst hu
   exact World.cell?_setCell_same _ _ _ (hold.trans (flatB_at R j hjl))
  ·have hu : (flatB R)[j]? = some u := by
    rw [flatB, List.getElem?_map, List.getElem?_set_ne (Ne.symm hij)] at hj
    rw [flatB, List.getElem?_map]
    exact hj
   exact (World.cell?_setCell_other w ⟨g, i, none⟩ ⟨g, j, none⟩ (.int .u8 y) (fun e => hij (by cases e; rfl))).trans (hold.trans hu)
theorem byte_live {w : World} {base g q : Nat} {R : List Int} (h : OwnB base w (.slice (some ⟨g, 0, none⟩) R.length q) R) {i : Nat} (hi : i < R.length) : w.cell? ⟨g, i, none⟩ = some (.int .u8 (byOf R i)) ∧ w.frozen? ⟨g, i, none⟩ = false := by
 have hold := World.ownsRow.cellAt h i (by omega)
 refine ⟨hold.trans (flatB_at R i hi), ?_⟩
 obtain ⟨_, ⟨e, _⟩ | ⟨g', cap, cur, e, _, hh, hn, hm, hsz, _⟩⟩ := h
 ·cases e
 ·simp at e
  obtain ⟨rfl, rfl⟩ := e
  exact frozen_of_row w g i cur _ hh
theorem wrap8_byte (z : Int) : 0 ≤ IntKind.u8.wrap z ∧ IntKind.u8.wrap z ≤ 255 := by rw [IntKind.wrap_u8]; omega
theorem own_take {w : World} {base g q : Nat} {R : List Int} (h : OwnB base w (.slice (some ⟨g, 0, none⟩) R.length q) R) {i : Nat} (hi : i ≤ R.length) : Row w (.slice (some ⟨g, 0, none⟩) i q) (R.take i).length (flatB (R.take i)) := by
 have hl : (R.take i).length = i := by rw [List.length_take]; omega
 rw [hl]
 obtain ⟨a, b, off, cap, he, h2, h3, h4, h5, h6⟩ := Row.of_owns h
 simp at he
 obtain ⟨rfl, rfl⟩ := he
 refine ⟨_, b, off, q, rfl, by omega, h3, fun hp => h4 (by omega), fun j u hj => ?_, h6⟩
 have hjl : j < i := by
  have := (List.getElem?_eq_some_iff.1 hj).1
  rw [flatB_length] at this
  omega
 refine h5 j u ?_
 rw [flatB, List.getElem?_map, List.getElem?_take_of_lt hjl] at hj
 rw [flatB, List.getElem?_map]
 exact hj

theorem drawGetNode_any (v : Value) (bs : List Int) (w : World) (hcode : Code8 w v bs) (hn : bs.length ≤ 1048576) :
  Calls Tryd.prog 12 #[v] w (BytesDrawn w) := by
 obtain ⟨i0, hi, hz0, hz1, hz2⟩ := info_parts Tryd.infoByte
 have CO := hid (fun u (hu : Below w.heap.size w u) => hcode.below hu)
 have HN := hid (l1New_any v bs w hcode hn)
 have HB := hid hn
 clear hcode hn
 go_enter Tryd.func12, Tryd.ntmps12
 go_wp2_with fail
 refine Calls.mono HN.out ?_
 rintro e w1 ⟨rfl, c1, hlt, b1⟩
 have HD := hid (l5DrawNode_any w.heap.size v bs w1 c1 (CO.out _ b1) HB.out)
 have I1 := hid (And.intro b1 hlt)
 clear c1 hlt b1 HN CO HB
 go_wp2_with fail
 refine Calls.mono HD.out ?_
 rintro e w2 ⟨y, T, vk, ks, rfl, hl, hkl, ht, hk, c2, G2⟩
 have HP := hid (specPutNode_any 8 y T vk ks w2 ht.treeAt hk.row (by omega) (by omega) (by omega) (by omega) (by omega))
 have I2 := hid (And.intro c2 (And.intro (I1.out.1.trans (G2.below (fun g _ e => by omega) I1.out.1.size)) (Nat.lt_of_lt_of_le I1.out.2 G2.size)))
 clear HD c2 G2 ht hk hl hkl I1
 go_wp2_with fail
 refine Calls.mono HP.out ?_
 rintro e w3 ⟨hpost, b3⟩
 obtain ⟨v3, ok, R, rfl, o3, hR, hRl⟩ := hpost.told
 obtain ⟨a3, q3, rfl, _, hq3⟩ := owns_shape o3
 have I3 := hid (And.intro (I2.out.1.below b3) (And.intro (owns_mono (base' := w.heap.size + 1) o3 I2.out.2.2) (And.intro (Below.and I2.out.2.1 b3) (And.intro hR (Nat.lt_of_lt_of_le I2.out.2.2 b3.size)))))
 clear HP hpost b3 o3 hR I2
 by_cases hz : R.length = 0
 ·obtain rfl := List.length_eq_zero_iff.1 hz
  have R3 := hid (OwnB.row I3.out.2.1)
  go_wp2_with fail
  go_ret
  exact ⟨_, [], rfl, R3.out, I3.out.2.2.2.1, by simp, I3.out.2.2.1⟩
 have d0 : ((R.length : Int) == 0) = false := by simp [hz]
 go_wp2_with fail
 refine Calls.mono (l1Below_any w.heap.size 5 w3 I3.out.1 (by decide)) ?_
 rintro e w4 ⟨s, rfl, _, _, _, c4, g4⟩
 have I4 := hid (And.intro c4 (And.intro (show OwnB (w.heap.size + 1) w4 (.slice a3 R.length q3) R from owns_chg I3.out.2.1 g4 (fun g hg e => by have := (World.ownsRow.lt I3.out.2.1 g hg).1; omega)) (And.intro (I3.out.2.2.1.trans (g4.below (fun g _ e => by omega) I3.out.2.2.1.size)) (And.intro I3.out.2.2.2.1 (Nat.lt_of_lt_of_le I3.out.2.2.2.2 g4.size)))))
 clear c4 g4 I3 d0
 obtain ⟨g, hg, hRq⟩ : ∃ g, a3 = some ⟨g, 0, none⟩ ∧ R.length ≤ q3 := by
  obtain ⟨_, ⟨e, e2⟩ | ⟨g, cap', cur, e, _, _, hn, _⟩⟩ := I4.out.2.1
  ·omega
  ·simp at e; exact ⟨g, e.1, by omega⟩
 subst hg
 by_cases h0 : s = 0
 ·have e0 : (s == 0) = true := by simp [h0]
  clear h0
  go_wp2_with fail
  refine Calls.mono (l1Below_any w.heap.size R.length w4 I4.out.1 (by omega)) ?_
  rintro e w5 ⟨x, rfl, hx0, hx1, _, c5, g5⟩
  have hx2 := hx1 (by omega)
  obtain ⟨i, rfl⟩ := Int.eq_ofNat_of_zero_le hx0
  have hir : i < R.length := by omega
  have I5 := hid (And.intro c5 (And.intro (show OwnB (w.heap.size + 1) w5 (.slice (some ⟨g, 0, none⟩) R.length q3) R from owns_chg I4.out.2.1 g5 (fun g hg e => by have := (World.ownsRow.lt I4.out.2.1 g hg).1; omega)) (And.intro (I4.out.2.2.1.trans (g5.below (fun g _ e => by omega) I4.out.2.2.1.size)) (And.intro I4.out.2.2.2.1 (Nat.lt_of_lt_of_le I4.out.2.2.2.2 g5.size)))))
  clear c5 g5 I4 hx0 hx1
  go_wp2_with fail
  refine (l1PickInt_any w.heap.size w5.heap.size [0, 1, 2, 4, 8, 127, 128, 255] (by simp) (by simp) _ (I5.out.1.alloc _) (heap_alloc_new _ _) (by have := I5.out.2.2.2.2; omega)).mono ?_
  rintro e w6 ⟨z, rfl, _, c6, g6⟩
  have hw8 := hid (wrap8_byte z)
  generalize hz8 : IntKind.u8.wrap z = z8 at *
  have HZ8 := hid hz8
  have O6 : OwnB (w.heap.size + 1) w6 (.slice (some ⟨g, 0, none⟩) R.length q3) R := owns_chg (owns_below I5.out.2.1 (bel_new _ _)) g6 (fun g hg e => by have := (World.ownsRow.lt I5.out.2.1 g hg).1; omega)
  have hb6 : Below w.heap.size w w6 := (Below.alloc I5.out.2.2.1 I5.out.2.2.1.size _).trans (g6.below (fun g _ e => by omega) (Nat.le_of_lt (Nat.lt_of_lt_of_le I5.out.2.2.2.2 (by simp))))
  have hgw : w.heap.size + 1 ≤ g := (World.ownsRow.lt O6 g rfl).1
  obtain ⟨k0, k1⟩ := byte_live O6 hir
  have F6 := hid (And.intro (own_set O6 hir z8) (show Below w.heap.size w (w6.setCell ⟨g, i, none⟩ (.int .u8 z8)) from hb6.setCell (by show w.heap.size ≤ g; omega) _))
  have HB6 := hid (show inByte (R.set i z8) from fun b hb => by
   rcases List.mem_or_eq_of_mem_set hb with h | h
   ·exact I5.out.2.2.2.1 b h
   ·rw [h]; exact hw8.out)
  clear c6 g6 O6 hb6 I5
  go_wp2_with fail
  go_ret
  exact ⟨_, R.set i z8, rfl, by rw [List.length_set]; exact F6.out.1, HB6.out, by rw [List.length_set]; omega, F6.out.2⟩
 have e0 : (s == 0) = false := by simp [h0]
 by_cases h1 : s = 1
 ·have e1 : (s == 1) = true := by simp [h1]
  clear h0 h1
  go_wp2_with fail
  refine Calls.mono (l1Below_any w.heap.size _ w4 I4.out.1 (by omega)) ?_
  rintro e w5 ⟨x, rfl, hx0, hx1, _, c5, g5⟩
  have hx2 := hx1 (by omega)
  obtain ⟨i, rfl⟩ := Int.eq_ofNat_of_zero_le hx0
  have hir : i ≤ R.length := by omega
  have hiq : (i : Int) ≤ (q3 : Int) := by omega
  have I5 := hid (And.intro (own_take (show OwnB (w.heap.size + 1) w5 (.slice (some ⟨g, 0, none⟩) R.length q3) R from owns_chg I4.out.2.1 g5 (fun g hg e => by have := (World.ownsRow.lt I4.out.2.1 g hg).1; omega)) hir) (And.intro (I4.out.2.2.1.trans (g5.below (fun g _ e => by omega) I4.out.2.2.1.size)) (show inByte (R.take i) from fun b hb => I4.out.2.2.2.1 b (List.mem_of_mem_take hb))))
  clear c5 g5 I4 hx0 hx1
  go_wp2
  go_ret
  exact ⟨_, R.take i, rfl, I5.out.1, I5.out.2.2, by rw [List.length_take]; omega, I5.out.2.1⟩
 have e1 : (s == 1) = false := by simp [h1]
 by_cases h2 : s = 2
 ·have e2 : (s == 2) = true := by simp [h2]
  clear h0 h1 h2
  have O4 := hid (show OwnB (w.heap.size + 1) (w4.alloc (.cells #[.int .u8 0] 5)) (.slice (some ⟨g, 0, none⟩) R.length q3) R from owns_below I4.out.2.1 (bel_new _ _))
  have R4 := hid (Row.laidN w4 (flatB [0]) 5 1 rfl (by decide))
  have B4 := hid (Below.alloc I4.out.2.2.1 I4.out.2.2.1.size (.cells #[.int .u8 0] 5))
  have HB4 := hid (show inByte (R ++ [0]) from fun b hb => by
   rcases List.mem_append.1 hb with h | h
   ·exact I4.out.2.2.2.1 b h
   ·simp at h; omega)
  have HR := hid (roomB (n := R.length) (m := 1) (by omega))
  have hs4 : w.heap.size + 1 ≤ (w4.alloc (.cells #[.int .u8 0] 5)).heap.size := by have := I4.out.2.2.2.2; simp; omega
  clear I4
  go_wp2_with (at_builtin; refine app_row (w4.alloc (.cells #[.int .u8 0] 5)) rfl _ _ 22 rfl (w.heap.size + 1) 5 i0 _ 1 1 Tryd.underlying22 hi hz0 hz1 hz2 rfl (by decide) (.slice (some ⟨g, 0, none⟩) R.length q3) R.length (flatB R) rfl O4.out (.slice (some ⟨w4.heap.size, 0, none⟩) 1 1) 1 (flatB [0]) rfl R4.out rfl (flatB_one _) HR.out.1 HR.out.2 hs4 ?_)
  intro v5 w5 ho5 _ hb5
  have o5 : OwnB (w.heap.size + 1) w5 v5 (R ++ [0]) := by unfold OwnB; rw [flatB_append]; simpa using ho5
  have F5 := hid (And.intro (OwnB.row o5) (B4.out.trans (hb5.mono (by omega))))
  clear ho5 hb5 o5 O4 R4 B4
  go_wp2
  go_ret
  exact ⟨_, R ++ [0], rfl, F5.out.1, HB4.out, by simp; omega, F5.out.2⟩
 ·have e2 : (s == 2) = false := by simp [h2]
  clear h0 h1 h2
  go_wp2
  go_ret
  exact ⟨_, R, rfl, OwnB.row I4.out.2.1, I4.out.2.2.2.1, by omega, I4.out.2.2.1⟩
end
section
open Go.RowKit

theorem big_any (a : Option Addr) (n cap : Nat) (hn : n ≤ maxLen) (w : World) :
  Calls Tryd.prog 4 #[.slice a n cap] w fun e w' => e = .returned (.bool (decide (n > 1048576))) ∧ w' = w := by
 unfold maxLen at hn
 by_cases h : n > 1048576
 ·have hd : decide ((n : Int) > 1048576) = true := decide_eq_true (by omega)
  go_enter Tryd.func4, Tryd.ntmps4
  go_wp2
  go_ret
  exact ⟨ret_bool (by simp [h]; try omega), rfl⟩
 ·go_enter Tryd.func4, Tryd.ntmps4
  go_wp2
  go_ret
  exact ⟨ret_bool (by simp [h]; try omega), rfl⟩
end
section
open Go.RowKit

theorem Tryd.neqM0 (a b c : Int) (w : World) : (binOp .neq 54 (.agg #[.int .i64 a, .int .i64 b, .int .i64 c]) (.agg #[.int .i64 a, .int .i64 b, .int .i64 c])).run Tryd.prog w = .ok (.bool false) w := by
 have u3 := Tryd.underlying3
 have a3 := Tryd.isAgg3
 have z3 := Tryd.sizeOf3
 have hS : Tryd.prog.underlying 54 = some (.struct (Tryd.prog.fieldsOf 54)) := by kernel_rfl
 have hp : Tryd.prog.stoodInHeld 54 = false := by kernel_rfl
 rw [run_neq_struct, show (10000 : Nat) = 9999 + 1 from rfl, run_equalIn_agg w 9999 54 _ _ hS hp]
 simp only [Program.fieldsOf, Tryd.underlying54]
 go_simp
theorem Tryd.neqP0 (a b : Int) (w : World) : (binOp .neq 52 (.agg #[.int .i64 a, .int .i64 b]) (.agg #[.int .i64 a, .int .i64 b])).run Tryd.prog w = .ok (.bool false) w := by
 have u3 := Tryd.underlying3
 have a3 := Tryd.isAgg3
 have z3 := Tryd.sizeOf3
 have hS : Tryd.prog.underlying 52 = some (.struct (Tryd.prog.fieldsOf 52)) := by kernel_rfl
 have hp : Tryd.prog.stoodInHeld 52 = false := by kernel_rfl
 rw [run_neq_struct, show (10000 : Nat) = 9999 + 1 from rfl, run_equalIn_agg w 9999 52 _ _ hS hp]
 simp only [Program.fieldsOf, Tryd.underlying52]
 go_simp
theorem Tryd.guardM0 : Tryd.prog.eqGuardType Tryd.prog.depth 54 = false := by kernel_rfl
theorem Tryd.guardP0 : Tryd.prog.eqGuardType Tryd.prog.depth 52 = false := by kernel_rfl

theorem sameInts_same (v1 v2 : Value) (l : List Int) (w : World) (h1 : Row w v1 l.length (flatI l)) (h2 : Row w v2 l.length (flatI l)) :
  Calls Tryd.prog 9 #[v1, v2] w fun e w' => e = .returned (.bool true) ∧ Below w.heap.size w w' := by
 obtain ⟨a, b, off, cap, rfl, hcap, hmax, ha, hk⟩ := h1.ints
 obtain ⟨a2, b2, off2, cap2, rfl, hcap2, hmax2, ha2, hj⟩ := h2.ints
 unfold maxLen at hmax hmax2
 go_enter Tryd.func9, Tryd.ntmps9
 go_wp2
 go_loopw [5] (fun i wr => ∃ k : Nat, k ≤ l.length ∧ i = .int .i64 k ∧ Below w.heap.size w wr)
  (fun i _ => l.length - (intOf i).toNat)
 case atStart => exact ⟨0, Nat.zero_le _, rfl, Below.refl _ _⟩
 case round =>
  obtain ⟨k, hkl, rfl, hb⟩ := hrel
  by_cases hlt : k < l.length
  ·have hal := ha (by omega)
   subst hal
   have hal2 := ha2 (by omega)
   subst hal2
   have d_hk := (hb.cell (by exact cell_lt (hk k hlt))).trans (hk k hlt)
   have d_hj := (hb.cell (by exact cell_lt (hj k hlt))).trans (hj k hlt)
   clear ha ha2 hk hj
   have hq : (iAt l k != iAt l k) = false := by simp
   go_wp2
   go_quiet (fail)
   go_wp2
   go_roundw
   case rel => exact ⟨k + 1, by omega, by go_num, below_drewN hb _⟩
   case measure => simp [intOf]; omega
  ·go_wp2
   go_ret
   exact ⟨rfl, hb⟩

theorem samePairs_same (v1 v2 : Value) (l : PL) (w : World) (h1 : Row w v1 l.length (flatP l)) (h2 : Row w v2 l.length (flatP l)) :
  Calls Tryd.prog 10 #[v1, v2] w fun e w' => e = .returned (.bool true) ∧ Below w.heap.size w w' := by
 obtain ⟨a, b, off, cap, rfl, hcap, hmax, ha, hk, hkv⟩ := h1.pairs
 obtain ⟨a2, b2, off2, cap2, rfl, hcap2, hmax2, ha2, hj, hjv⟩ := h2.pairs
 unfold maxLen at hmax hmax2
 go_enter Tryd.func10, Tryd.ntmps10
 go_wp2
 go_loopw [5] (fun i wr => ∃ k : Nat, k ≤ l.length ∧ i = .int .i64 k ∧ Below w.heap.size w wr)
  (fun i _ => l.length - (intOf i).toNat)
 case atStart => exact ⟨0, Nat.zero_le _, rfl, Below.refl _ _⟩
 case round =>
  obtain ⟨k, hkl, rfl, hb⟩ := hrel
  by_cases hlt : k < l.length
  ·have hal := ha (by omega)
   subst hal
   have hal2 := ha2 (by omega)
   subst hal2
   have d_hk := (hb.cell (by exact cell_lt (hk k hlt))).trans (hk k hlt)
   have d_hkv := (hb.cell (by exact cell_lt (hkv k hlt))).trans (hkv k hlt)
   have d_hj := (hb.cell (by exact cell_lt (hj k hlt))).trans (hj k hlt)
   have d_hjv := (hb.cell (by exact cell_lt (hjv k hlt))).trans (hjv k hlt)
   clear ha ha2 hk hkv hj hjv
   have hg := Tryd.guardP0
   have hq := Tryd.neqP0 (kOf l k) (vOf l k)
   go_wp2
   go_quiet (fail)
   go_wp2
   go_roundw
   case rel => exact ⟨k + 1, by omega, by go_num, below_drewN hb _⟩
   case measure => simp [intOf]; omega
  ·go_wp2
   go_ret
   exact ⟨rfl, hb⟩

theorem sameMsgs_same (v1 v2 : Value) (l : ML) (w : World) (h1 : Row w v1 l.length (flatM l)) (h2 : Row w v2 l.length (flatM l)) :
  Calls Tryd.prog 11 #[v1, v2] w fun e w' => e = .returned (.bool true) ∧ Below w.heap.size w w' := by
 obtain ⟨a, b, off, cap, rfl, hcap, hmax, ha, hk, hkv, hkw⟩ := h1.msgs
 obtain ⟨a2, b2, off2, cap2, rfl, hcap2, hmax2, ha2, hj, hjv, hjw⟩ := h2.msgs
 unfold maxLen at hmax hmax2
 go_enter Tryd.func11, Tryd.ntmps11
 go_wp2
 go_loopw [5] (fun i wr => ∃ k : Nat, k ≤ l.length ∧ i = .int .i64 k ∧ Below w.heap.size w wr)
  (fun i _ => l.length - (intOf i).toNat)
 case atStart => exact ⟨0, Nat.zero_le _, rfl, Below.refl _ _⟩
 case round =>
  obtain ⟨k, hkl, rfl, hb⟩ := hrel
  by_cases hlt : k < l.length
  ·have hal := ha (by omega)
   subst hal
   have hal2 := ha2 (by omega)
   subst hal2
   have d_hk := (hb.cell (by exact cell_lt (hk k hlt))).trans (hk k hlt)
   have d_hkv := (hb.cell (by exact cell_lt (hkv k hlt))).trans (hkv k hlt)
   have d_hkw := (hb.cell (by exact cell_lt (hkw k hlt))).trans (hkw k hlt)
   have d_hj := (hb.cell (by exact cell_lt (hj k hlt))).trans (hj k hlt)
   have d_hjv := (hb.cell (by exact cell_lt (hjv k hlt))).trans (hjv k hlt)
   have d_hjw := (hb.cell (by exact cell_lt (hjw k hlt))).trans (hjw k hlt)
   clear ha ha2 hk hkv hkw hj hjv hjw
   have hg := Tryd.guardM0
   have hq := Tryd.neqM0 (mO l k) (mK l k) (mV l k)
   go_wp2
   go_quiet (fail)
   go_wp2
   go_roundw
   case rel => exact ⟨k + 1, by omega, by go_num, below_drewN hb _⟩
   case measure => simp [intOf]; omega
  ·go_wp2
   go_ret
   exact ⟨rfl, hb⟩
end
end Go.Proofs.YtbmcojelgbkafaaDoor
