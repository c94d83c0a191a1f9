/-
  Contracts of the model's TreeMap and TreeRange.
  slices.Values at a list of pairs: what it yields.
  Contracts of slices.Grow and slices.Concat at messages, and of the program's msgsOfKid.
  The program's iterator over a tree: what it yields.
  The contract of the program's told.
  Contracts of slices.Collect at pairs and of the program's TreeMap.
  The contract of the program's TreeRange.
  The laws' own function that writes marks into a tree: it ends, counts the marks, and writes within given bounds alone.
  Contracts of the laws' own functions that measure a tree.
  Contracts of the laws' own functions that hold two trees against each other.
-/
import Derived.Test.YtmpiijphpnjlnaaMapMath
import Derived.Test.YtmpiijphpnjlnaaQTop
import Derived.Test.YtmpiijphpnjlnaaRng
import Derived.Lib.Walk
import Derived.Lib.SliceRun
import Derived.Lib.AppendZerosOnto
import Derived.Deep.RegionHeld3
import Derived.Deep.DeepCutAuto
import Derived.Test.YtmpiijphpnjlnaaTreeToB
import Derived.Test.YtmpiijphpnjlnaaFrame
import Derived.Test.YtmpiijphpnjlnaaTree
namespace Go.Proofs.Ytmpiijphpnjlnaa
open Go.RowKit

/-- what has come of the first kids -/
def accF (m : Nat) (T : Tr) (j : Nat) : PL := T.pairs ++ ((T.kids.take j).map (mapF m)).flatten
theorem accF_succ (m : Nat) (T : Tr) (j : Nat) (h : j < T.kids.length) : accF m T (j + 1) = accF m T j ++ mapF m (kidT T j) := by
  rw [accF, accF, List.take_succ_eq_append_getElem h, List.map_append, List.flatten_append, ← List.append_assoc]
  simp [kidT, List.getD, h]
theorem accF_zero (m : Nat) (T : Tr) : accF m T 0 = T.pairs := by simp [accF]
theorem accF_full (m : Nat) (T : Tr) : allL (accF m T T.kids.length) T.buf = mapF (m + 1) T := by
  rw [accF, List.take_of_length_le (Nat.le_refl _), mapF]
theorem accF_length {m : Nat} {T : Tr} {lo hi : Int} (h : depthF (m + 1) T lo hi ≠ 0) : ∀ j, j ≤ T.kids.length → (accF m T j).length ≤ 4 + 1000 * j
  | 0, _ => by
    rw [accF_zero]
    cases hl : T.leaf
    · rw [(forkOk_parts (depthF_fork_ok h hl).1).1]; simp
    · have := (leafOk_parts (depthF_leaf_ok h hl)).2.1
      omega
  | j + 1, hj => by
    have ih := accF_length h j (by omega)
    rw [accF_succ m T j (by omega), List.length_append]
    cases hl : T.leaf
    · have := (mapF_is ((depthF_fork_ok h hl).2 j (by omega))).1.length
      omega
    · rw [(leafOk_parts (depthF_leaf_ok h hl)).2.2.1] at hj
      simp at hj
theorem kids_le {m : Nat} {T : Tr} {lo hi : Int} (h : depthF (m + 1) T lo hi ≠ 0) : T.kids.length ≤ 4 ∧ T.buf.length ≤ 6 ∧ T.pairs.length ≤ 4 := by
  cases hl : T.leaf
  · have := forkOk_parts (depthF_fork_ok h hl).1
    exact ⟨this.2.1.2, this.2.2.2.1, by rw [this.1]; simp⟩
  · have := leafOk_parts (depthF_leaf_ok h hl)
    exact ⟨by rw [this.2.2.1]; simp, by rw [this.2.2.2.1]; simp, this.2.1⟩
theorem kid_depth {m : Nat} {T : Tr} {lo hi : Int} (h : depthF (m + 1) T lo hi ≠ 0) {j : Nat} (hj : j < T.kids.length) : ∃ lo' hi', depthF m (kidT T j) lo' hi' ≠ 0 := by
  cases hl : T.leaf
  · exact ⟨_, _, (depthF_fork_ok h hl).2 j hj⟩
  · rw [(leafOk_parts (depthF_leaf_ok h hl)).2.2.1] at hj
    simp at hj

def MapIs (m : Nat) : Prop := ∀ (n : Nat) (x : TV) (T : Tr) (lo hi : Int) (w : World), TreeAt n w x T → depthF m T lo hi ≠ 0 →
  Calls Try.prog 65 #[x.val] w fun e w' => ∃ v', e = .returned v' ∧ w'.ownsRow w.heap.size 87 2 v' (mapF m T).length (flatP (mapF m T)) ∧ Below w.heap.size w w'

set_option maxRecDepth 100000 in
set_option maxHeartbeats 4000000 in
theorem map_of {m : Nat} (H : MapIs m) : MapIs (m + 1) := by
  intro n x T lo hi w ht hd
  cases n with
  | zero => exact ht.elim
  | succ n =>
  obtain ⟨_, hpr, _, hbuf, hkids⟩ := ht.parts
  obtain ⟨a1, a2, a3, a4, q1, q2, q3, q4, hx⟩ := ht.shape
  subst hx
  simp only at hpr hbuf hkids
  clear ht
  obtain ⟨i0, hi0, hz0, hz1, hz2⟩ := info_parts Try.info87
  obtain ⟨hk4, hb6, hp4⟩ := kids_le hd
  have E0 : Hid (((w.alloc (.cells #[.bool T.leaf, .slice a1 T.pairs.length q1, .slice a2 T.cuts.length q2, .slice a3 T.kids.length q3, .slice a4 T.buf.length q4] 29)).alloc (.cells #[] 87)).ownsRow (w.heap.size + 1) 87 2 (.slice (some ⟨w.heap.size + 1, 0, none⟩) 0 0) 0 []) := by
    have := empty_own (w.alloc (.cells #[.bool T.leaf, .slice a1 T.pairs.length q1, .slice a2 T.cuts.length q2, .slice a3 T.kids.length q3, .slice a4 T.buf.length q4] 29)) (w.heap.size + 1) 87 2 (by simp)
    rw [World.size_alloc] at this
    exact this
  have B0 : Hid (Below w.heap.size w ((w.alloc (.cells #[.bool T.leaf, .slice a1 T.pairs.length q1, .slice a2 T.cuts.length q2, .slice a3 T.kids.length q3, .slice a4 T.buf.length q4] 29)).alloc (.cells #[] 87))) := ((Below.refl _ _).alloc (Nat.le_refl _) _).alloc (by simp) _
  have S0 : Hid (OneAt ((w.alloc (.cells #[.bool T.leaf, .slice a1 T.pairs.length q1, .slice a2 T.cuts.length q2, .slice a3 T.kids.length q3, .slice a4 T.buf.length q4] 29)).alloc (.cells #[] 87)) w.heap.size #[.bool T.leaf, .slice a1 T.pairs.length q1, .slice a2 T.cuts.length q2, .slice a3 T.kids.length q3, .slice a4 T.buf.length q4]) :=
    (OneAt.start w _).step ((Below.refl _ _).alloc (Nat.le_refl _) _)
  have Z0 : Hid (w.heap.size + 1 ≤ ((w.alloc (.cells #[.bool T.leaf, .slice a1 T.pairs.length q1, .slice a2 T.cuts.length q2, .slice a3 T.kids.length q3, .slice a4 T.buf.length q4] 29)).alloc (.cells #[] 87)).heap.size) := by
    show _ ≤ _
    simp
  have AS : Hid (∀ j, j < T.kids.length → accF m T (j + 1) = accF m T j ++ mapF m (kidT T j)) := fun j hj => accF_succ m T j hj
  have AZ : Hid (accF m T 0 = T.pairs) := accF_zero m T
  have AF : Hid (allL (accF m T T.kids.length) T.buf = mapF (m + 1) T) := accF_full m T
  have AL : Hid (∀ j, j ≤ T.kids.length → (accF m T j).length ≤ 4004) := fun j hj => by have := accF_length hd j hj; omega
  have ML1 : Hid (∀ j, j < T.kids.length → (mapF m (kidT T j)).length ≤ 1000) := fun j hj => by
    obtain ⟨lo', hi', h⟩ := kid_depth hd hj
    exact (mapF_is h).1.length
  have RP : Hid (Row w (.slice a1 T.pairs.length q1) T.pairs.length (flatP T.pairs)) := hpr
  have RB : Hid (Row w (.slice a4 T.buf.length q4) T.buf.length (flatM T.buf)) := hbuf
  obtain ⟨xs, hxl, hrow, hk⟩ := hkids
  obtain ⟨a3', b3, off3, cap3, hv3, hcap3, hmax3, ha3, c0, c1, c2, c3, c4⟩ := hrow.trees
  simp only [Value.slice.injEq] at hv3
  obtain ⟨rfl, _, rfl⟩ := hv3
  unfold maxLen at hmax3
  have HP : Hid (∀ j, j < T.kids.length → ∀ w1, Below w.heap.size w w1 → Calls Try.prog 65 #[(tvAt xs j).val] w1 fun e w' => ∃ v', e = .returned v' ∧ w'.ownsRow w1.heap.size 87 2 v' (mapF m (kidT T j)).length (flatP (mapF m (kidT T j))) ∧ Below w1.heap.size w1 w') := fun j hj w1 hb => by
    obtain ⟨lo', hi', h⟩ := kid_depth hd hj
    exact H n (tvAt xs j) (kidT T j) lo' hi' w1 ((hk j (by omega)).below hb) h
  rw [← AF.out]
  clear hpr hbuf hrow hd hk AF
  rw [hxl] at *
  generalize hn3 : T.kids.length = n3 at *
  generalize accF m T = fo at *
  generalize T.leaf = tl at *
  generalize T.cuts.length = n2 at *
  show Calls Try.prog 65 #[.agg #[.bool tl, .slice a1 T.pairs.length q1, .slice a2 n2 q2, .slice a3 n3 q3, .slice a4 T.buf.length q4]] w _
  have HR0 : Hid (0 + T.pairs.length ≤ maxLen ∧ (0 + T.pairs.length) * 16 ≤ 140737488355328) := ⟨by unfold maxLen; omega, by omega⟩
  have H10 : Hid (∀ y ∈ flatP T.pairs, y.oneCell' = true) := flatP_one T.pairs
  have HL0 : Hid ((flatP T.pairs).length = T.pairs.length * 2) := flatP_length _
  obtain ⟨k0, k1, k2, k3, k4⟩ := box_cells5 S0.out
  have R0 : Hid _ := RP.out.below B0.out
  go_enter Try.func65, Try.ntmps65
  go_wp2_with (at_builtin; refine app_row ((w.alloc (.cells #[.bool tl, .slice a1 T.pairs.length q1, .slice a2 n2 q2, .slice a3 n3 q3, .slice a4 T.buf.length q4] 29)).alloc (.cells #[] 87)) rfl _ _ 24 rfl (w.heap.size + 1) 87 i0 _ 2 16 Try.underlying24 hi0 hz0 hz1 hz2 rfl (by decide) (.slice (some ⟨w.heap.size + 1, 0, none⟩) 0 0) 0 [] rfl E0.out (.slice a1 T.pairs.length q1) T.pairs.length (flatP T.pairs) rfl R0.out HL0.out H10.out HR0.out.1 HR0.out.2 Z0.out ?_)
  intro v1 w1 o1 _ b1
  have O1 : Hid (w1.ownsRow (w.heap.size + 1) 87 2 v1 (fo 0).length (flatP (fo 0))) := by
    rw [AZ.out]
    exact o1
  have B1 : Hid (Below w.heap.size w w1) := B0.out.trans (b1.mono (Nat.le_succ _))
  have S1 : Hid (OneAt w1 w.heap.size _) := S0.out.stepB b1 (Nat.lt_succ_self _)
  clear o1 b1 k0 k1 k2 k3 k4 E0 B0 S0 Z0 R0
  go_wp2
  go_loopw [3, 4] (fun out i wr => ∃ j : Nat, j ≤ n3 ∧ i = .int .i64 j ∧ Hid (wr.ownsRow (w.heap.size + 1) 87 2 out (fo j).length (flatP (fo j))) ∧ Hid (OneAt wr w.heap.size #[.bool tl, .slice a1 T.pairs.length q1, .slice a2 n2 q2, .slice a3 n3 q3, .slice a4 T.buf.length q4]) ∧ Hid (Below w.heap.size w wr))
    (fun _ i _ => n3 - (intOf i).toNat)
  case atStart => exact ⟨0, Nat.zero_le _, rfl, O1, S1, B1⟩
  case round =>
    obtain ⟨j, hj, rfl, ON, SN, BN⟩ := hrel
    clear O1 S1 B1
    obtain ⟨k0, k1, k2, k3, k4⟩ := box_cells5 SN.out
    by_cases hlt : j < n3
    · have hal := ha3 (by omega)
      subst hal
      have d0 := cell_lowB BN.out (cell_lt (c0 j hlt)) (c0 j hlt)
      have d1 := cell_lowB BN.out (cell_lt (c1 j hlt)) (c1 j hlt)
      have d2 := cell_lowB BN.out (cell_lt (c2 j hlt)) (c2 j hlt)
      have d3 := cell_lowB BN.out (cell_lt (c3 j hlt)) (c3 j hlt)
      have d4 := cell_lowB BN.out (cell_lt (c4 j hlt)) (c4 j hlt)
      have HC : Hid _ := HP.out j hlt wr BN.out
      have AS1 : Hid _ := AS.out j hlt
      have hal1 := AL.out j hj
      have hml1 := ML1.out j hlt
      generalize hy : tvAt xs j = y at *
      obtain ⟨yl, yp, yc, yk, yb⟩ := y
      simp only at d0 d1 d2 d3 d4
      generalize mapF m (kidT T j) = KM at *
      clear c0 c1 c2 c3 c4 HP hy
      have HR : Hid ((fo j).length + KM.length ≤ maxLen ∧ ((fo j).length + KM.length) * 16 ≤ 140737488355328) := ⟨by unfold maxLen; omega, by omega⟩
      have H1 : Hid (∀ y ∈ flatP KM, y.oneCell' = true) := flatP_one KM
      have HL : Hid ((flatP KM).length = KM.length * 2) := flatP_length _
      go_wp2_with fail
      refine Calls.mono HC.out ?_
      rintro e w2 ⟨v2, rfl, o2, hb2⟩
      have O2 : Hid (w2.ownsRow (w.heap.size + 1) 87 2 u3 (fo j).length (flatP (fo j))) := owns_below ON.out hb2
      have S2 : Hid (OneAt w2 w.heap.size _) := SN.out.step hb2
      have B2 : Hid (Below w.heap.size w w2) := Below.and BN.out hb2
      have R2 : Hid (Row w2 v2 KM.length (flatP KM)) := Row.of_owns o2
      have Z2 : Hid (w.heap.size + 1 ≤ w2.heap.size) := (Array.getElem?_eq_some_iff.1 S2.out).1
      clear hb2 o2 d0 d1 d2 d3 d4 k0 k1 k2 k3 k4 ON SN BN HC
      go_wp2_with (at_builtin; refine app_row w2 rfl _ _ 24 rfl (w.heap.size + 1) 87 i0 _ 2 16 Try.underlying24 hi0 hz0 hz1 hz2 rfl (by decide) u3 _ _ rfl O2.out v2 KM.length (flatP KM) rfl R2.out HL.out H1.out HR.out.1 HR.out.2 Z2.out ?_)
      intro v3 w3 o3 _ b3'
      have FIN : Hid _ := And.intro o3 (And.intro (S2.out.stepB b3' (Nat.lt_succ_self _)) (B2.out.trans (b3'.mono (Nat.le_succ _))))
      clear o3 b3'
      go_wp2
      go_roundw
      case rel => exact ⟨j + 1, by omega, by go_num, by rw [AS1.out, flatP_append, List.length_append]; exact FIN.out.1, FIN.out.2.1, FIN.out.2.2⟩
      case measure => simp [intOf]; omega
    · have hjj : j = n3 := by omega
      subst hjj
      have hal1 := AL.out j (Nat.le_refl _)
      have RO : Hid (Row wr u3 (fo j).length (flatP (fo j))) := Row.of_owns ON.out
      clear c0 c1 c2 c3 c4 ha3 ON
      go_wp2_with fail
      refine Calls.mono (specMapAll_any _ _ (fo j) T.buf _ RO.out (RB.out.below BN.out) (by omega)) ?_
      rintro e w2 ⟨v2, rfl, o2, hb2⟩
      have FIN : Hid _ := And.intro (owns_mono o2 BN.out.size) (Below.and BN.out hb2)
      clear o2 hb2 k0 k1 k2 k3 k4
      go_wp2
      go_ret
      exact ⟨_, rfl, FIN.out.1, FIN.out.2⟩

theorem map_0 : MapIs 0 := fun _ _ _ _ _ _ _ h => absurd rfl h
theorem map_any : ∀ m, MapIs m
  | 0 => map_0
  | m + 1 => map_of (map_any m)

/-- TreeMap's answer, TreeRange's -/
def mapT (T : Tr) : PL := if okT T = true then mapF 7 T else []
theorem mapT_mapP (T : Tr) : MapP (mapT T) := by
  unfold mapT
  split
  · exact (mapF_is (okT_depth (by assumption))).1
  · exact ⟨by simp [Asc, keys], fun p hp => by simp at hp⟩
theorem mapT_length (T : Tr) : (mapT T).length ≤ 1000 := (mapT_mapP T).length
def rangeT (T : Tr) (lo hi : Int) : PL := rangeL (mapT T) lo hi
theorem rangeT_length (T : Tr) (lo hi : Int) : (rangeT T lo hi).length ≤ 1000 := Nat.le_trans (rangeL_length _ _ _) (mapT_length T)

set_option maxHeartbeats 1000000 in
theorem specTreeMap_any (n : Nat) (x : TV) (T : Tr) (w : World) (ht : TreeAt n w x T) (hsz : sizeT n T ≤ 1099511627776) :
    Calls Try.prog 28 #[x.val] w fun e w' => ∃ v', e = .returned v' ∧ w'.ownsRow w.heap.size 87 2 v' (mapT T).length (flatP (mapT T)) ∧ Below w.heap.size w w' := by
  have TT : Hid (TreeAt n w x T) := ht
  clear ht
  obtain ⟨lf, p, c, k, b⟩ := x
  have B0 : Hid _ := bel_box w #[.bool lf, p, c, k, b]
  have S0 : Hid (OneAt _ w.heap.size _) := OneAt.start w #[.bool lf, p, c, k, b]
  have HC := specTreeOk_any n ⟨lf, p, c, k, b⟩ T _ (TT.out.below B0.out) hsz
  have HC' : Hid _ := HC
  clear HC
  have P1 : Hid (okT T = true → mapT T = mapF 7 T) := fun h => by rw [mapT, if_pos h]
  have P2 : Hid (okT T = false → mapT T = []) := fun h => by rw [mapT, if_neg (by rw [h]; simp)]
  show Calls Try.prog 28 #[.agg #[.bool lf, p, c, k, b]] w _
  cases hok : okT T
  · rw [P2.out hok]
    rw [hok] at HC'
    clear P1 P2
    go_enter Try.func28, Try.ntmps28
    go_wp2_with fail
    refine Calls.mono HC'.out ?_
    rintro e w1 ⟨rfl, hb1⟩
    have B1 : Hid (Below w.heap.size w w1) := Below.and B0.out hb1
    clear hb1 B0
    go_wp2
    go_ret
    exact ⟨_, rfl, empty_own w1 w.heap.size 87 2 B1.out.size, B1.out.alloc B1.out.size _⟩
  · rw [P1.out hok]
    have HD : Hid (∀ w1, Below w.heap.size w w1 → Calls Try.prog 65 #[.agg #[.bool lf, p, c, k, b]] w1 fun e w' => ∃ v', e = .returned v' ∧ w'.ownsRow w1.heap.size 87 2 v' (mapF 7 T).length (flatP (mapF 7 T)) ∧ Below w1.heap.size w1 w') :=
      fun w1 hb => map_any 7 n ⟨lf, p, c, k, b⟩ T 0 1000 w1 (TT.out.below hb) (okT_depth hok)
    rw [hok] at HC'
    clear P1 P2
    generalize mapF 7 T = M at *
    go_enter Try.func28, Try.ntmps28
    go_wp2_with fail
    refine Calls.mono HC'.out ?_
    rintro e w1 ⟨rfl, hb1⟩
    have B1 : Hid (Below w.heap.size w w1) := Below.and B0.out hb1
    have k0 := (S0.out.step hb1).cells
    clear hb1 B0
    go_wp2_with fail
    refine Calls.mono (HD.out w1 B1.out) ?_
    rintro e w2 ⟨v2, rfl, o2, hb2⟩
    have FIN : Hid _ := And.intro (owns_mono o2 B1.out.size) (Below.and B1.out hb2)
    clear hb2 o2 k0
    go_wp2
    go_ret
    exact ⟨_, rfl, FIN.out.1, FIN.out.2⟩

theorem app_oneL {P : Program} {ops : Array Oper} {rest : List Oper} {o : Oper} {a : Act} {Q : Exit → Act → World → Prop} (W : World) (B : Nat) (hB : W.heap.size = B) (hgd : o.guard = none) (s x : Operand) (t : TypeId)
    (ho : o.op = .call { callee := .builtin .append, args := #[s, x], argTypes := #[t, t] })
    (base : Nat) (e : TypeId) (i : TypeInfo) (z : Value) (size bytes : Nat) (ht : P.underlying t = some (.slice e)) (hi : P.info? e = some i) (hz : i.zero = some z)
    (hsize : i.size = size) (hby : i.bytes = bytes) (hzs : z.cells.size = size) (hsz : 0 < size)
    (v : Value) (n : Nat) (xs : List Value) (hs : a.eval s = v) (hown : W.ownsRow base e size v n xs)
    (news : List Value) (hx : a.eval x = .slice (some ⟨B, 0, none⟩) 1 1) (hl : news.length = size) (h1 : ∀ u ∈ news, u.oneCell' = true)
    (h63 : n + 1 ≤ maxLen) (hbytes : (n + 1) * bytes ≤ 140737488355328) (hbase : base ≤ W.heap.size)
    (h : ∀ v' w', w'.ownsRow base e size v' (n + 1) (xs ++ news) → Chg (fun g => v.ownBlock = some g) W w' → Below base W w' → (∀ g, v'.ownBlock = some g → v.ownBlock = some g ∨ g = B + 1) → wpList P ops Q rest (a.put o.dst v') w') :
    wpList P ops Q (o :: rest) a (W.alloc (.cells news.toArray e)) := by
  subst hB
  refine wpList_append_lies _ hgd s x t ho base e i z size bytes ht hi hz hsize hby hzs hsz v n xs hs (hown.alloc _) ⟨W.heap.size, 0, none⟩ 1 1 news hx (by omega) ?_ h1 (by decide) h63 hbytes (by simp; omega) (W.heap.size + 1) (by simp) ?_
  · intro j u hj
    rw [Go.WideShapes.add_plain, Nat.zero_add, cell_of_cells (heap_alloc_new W _)]
    simpa using hj
  · intro g cap w' h2 h3 h4 _
    have hc : Chg (fun g => v.ownBlock = some g) W w' := ((Chg.refl _ _).alloc _).trans (chg_of_grown h3) (fun _ _ e => e)
    refine h _ w' h2 hc (below_of_own hown hc hbase) (fun g' hg' => ?_)
    have : g = g' := by simpa [Value.ownBlock] using hg'
    subst this
    exact h4

set_option maxRecDepth 100000 in
set_option maxHeartbeats 2000000 in
theorem specTreeRange_any (n : Nat) (x : TV) (T : Tr) (x0 x1 : Int) (w : World) (ht : TreeAt n w x T) (hsz : sizeT n T ≤ 1099511627776) :
    Calls Try.prog 33 #[x.val, .int .i64 x0, .int .i64 x1] w fun e w' => ∃ v', e = .returned v' ∧ w'.ownsRow w.heap.size 87 2 v' (rangeT T x0 x1).length (flatP (rangeT T x0 x1)) ∧ Below w.heap.size w w' := by
  have TT : Hid (TreeAt n w x T) := ht
  clear ht
  obtain ⟨i0, hi0, hz0, hz1, hz2⟩ := info_parts Try.info87
  obtain ⟨lf, p, c, k, b⟩ := x
  have B0 : Hid (Below w.heap.size w ((w.alloc (.cells #[.bool lf, p, c, k, b] 29)).alloc (.cells #[] 87))) := ((Below.refl _ _).alloc (Nat.le_refl _) _).alloc (by simp) _
  have E0 : Hid (((w.alloc (.cells #[.bool lf, p, c, k, b] 29)).alloc (.cells #[] 87)).ownsRow w.heap.size 87 2 (.slice (some ⟨w.heap.size + 1, 0, none⟩) 0 0) 0 []) := by
    have := empty_own (w.alloc (.cells #[.bool lf, p, c, k, b] 29)) w.heap.size 87 2 (by simp)
    rw [World.size_alloc] at this
    exact this
  have S0 : Hid (OneAt ((w.alloc (.cells #[.bool lf, p, c, k, b] 29)).alloc (.cells #[] 87)) w.heap.size #[.bool lf, p, c, k, b]) := (OneAt.start w _).step ((Below.refl _ _).alloc (Nat.le_refl _) _)
  have HC := specTreeMap_any n ⟨lf, p, c, k, b⟩ T _ (TT.out.below B0.out) hsz
  have HC' : Hid _ := HC
  have hAl := mapT_length T
  have RE : Hid (rangeT T x0 x1 = rangeL (mapT T) x0 x1) := rfl
  rw [RE.out]
  clear HC RE
  generalize mapT T = A at *
  have RF : Hid (rangeL (A.take A.length) x0 x1 = rangeL A x0 x1) := by
    show _ = _
    rw [List.take_of_length_le (Nat.le_refl _)]
  have RS : Hid (∀ j, j < A.length → rangeL (A.take (j + 1)) x0 x1 = if x0 ≤ kOf A j ∧ kOf A j < x1 then rangeL (A.take j) x0 x1 ++ [(kOf A j, vOf A j)] else rangeL (A.take j) x0 x1) := fun j hj => by rw [take_succP A j hj, rangeL_snoc]
  have RL : Hid (∀ j, (rangeL (A.take j) x0 x1).length ≤ 1000) := fun j => Nat.le_trans (rangeL_length _ _ _) (Nat.le_trans (List.length_take_le' _ _) hAl)
  have R0 : Hid (rangeL (A.take 0) x0 x1 = []) := rfl
  rw [← RF.out]
  generalize hfo : (fun j => rangeL (A.take j) x0 x1) = fo
  have hfo' : ∀ j, rangeL (A.take j) x0 x1 = fo j := fun j => by rw [← hfo]
  simp only [hfo'] at RS RL R0 ⊢
  clear hfo hfo' RF
  show Calls Try.prog 33 #[.agg #[.bool lf, p, c, k, b], .int .i64 x0, .int .i64 x1] w _
  obtain ⟨k0, k1, k2, k3, k4⟩ := box_cells5 S0.out
  go_enter Try.func33, Try.ntmps33
  go_wp2_with fail
  refine Calls.mono HC'.out ?_
  rintro e w1 ⟨v1, rfl, o1, hb1⟩
  have B1 : Hid (Below w.heap.size w w1) := Below.and B0.out hb1
  have O1 : Hid (w1.ownsRow w.heap.size 87 2 (.slice (some ⟨w.heap.size + 1, 0, none⟩) 0 0) (fo 0).length (flatP (fo 0))) := by
    rw [R0.out]; exact owns_below E0.out hb1
  have RA : Hid (Row w1 v1 A.length (flatP A)) := Row.of_owns o1
  have L1 : Hid (∀ g, v1.ownBlock = some g → w.heap.size + 2 ≤ g) := fun g hg => by
    have := (o1.lt g hg).1
    simp at this
    omega
  have OA : Hid (w1.ownsRow (w.heap.size + 2) 87 2 v1 A.length (flatP A)) := owns_mono o1 (by simp)
  have Z1 : Hid (w.heap.size + 2 ≤ w1.heap.size) := by
    have := hb1.size
    simp at this
    exact this
  have LA : Hid (∀ g, v1.ownBlock = some g → g < w1.heap.size) := fun g hg => (o1.lt g hg).2
  clear hb1 o1 B0 E0 S0 HC' k0 k1 k2 k3 k4 RA
  obtain ⟨av, cv, hv⟩ := owns_val OA.out
  subst hv
  go_wp2
  go_loopw [7, 9] (fun out i wr => ∃ j : Nat, j ≤ A.length ∧ i = .int .i64 j ∧ Hid (wr.ownsRow w.heap.size 87 2 out (fo j).length (flatP (fo j))) ∧ Hid (wr.ownsRow (w.heap.size + 2) 87 2 (.slice av A.length cv) A.length (flatP A)) ∧ Hid (∀ g, out.ownBlock = some g → g = w.heap.size + 1 ∨ w1.heap.size ≤ g) ∧ Hid (Below w.heap.size w wr) ∧ w1.heap.size ≤ wr.heap.size)
    (fun _ i _ => A.length - (intOf i).toNat)
  case atStart => exact ⟨0, Nat.zero_le _, rfl, O1, OA, fun g hg => .inl (by simpa [Value.ownBlock] using hg.symm), B1, Nat.le_refl _⟩
  case round =>
    obtain ⟨j, hj, rfl, ON, OAN, LN, BN, hsn⟩ := hrel
    clear O1 B1 OA
    obtain ⟨av', bv, off, cv', hav, hcap, hmax, ha, ck, cv2⟩ := (Row.of_owns OAN.out).pairs
    simp only [Value.slice.injEq, true_and] at hav
    obtain ⟨rfl, rfl⟩ := hav
    unfold maxLen at hmax
    by_cases hlt : j < A.length
    · have hal := ha (by omega)
      subst hal
      have t0 := ck j hlt
      have t1 := cv2 j hlt
      have RS1 : Hid _ := RS.out j hlt
      have hrl := RL.out j
      clear ck cv2 ha
      rcases (show (¬ x0 ≤ kOf A j) ∨ (x0 ≤ kOf A j ∧ ¬ kOf A j < x1) ∨ (x0 ≤ kOf A j ∧ kOf A j < x1) from by omega) with h1 | ⟨h1, h2⟩ | ⟨h1, h2⟩
      · have DS : Hid (fo (j + 1) = fo j) := RS1.out.trans (if_neg (fun h => h1 h.1))
        clear RS1
        go_wp2
        go_roundw
        case rel => exact ⟨j + 1, by omega, by go_num, by rw [DS.out]; exact ON, OAN, LN, BN, hsn⟩
        case measure => simp [intOf]; omega
      · have DS : Hid (fo (j + 1) = fo j) := RS1.out.trans (if_neg (fun h => h2 h.2))
        clear RS1
        go_wp2
        go_roundw
        case rel => exact ⟨j + 1, by omega, by go_num, by rw [DS.out]; exact ON, OAN, LN, BN, hsn⟩
        case measure => simp [intOf]; omega
      · have DS : Hid (fo (j + 1) = fo j ++ [(kOf A j, vOf A j)]) := RS1.out.trans (if_pos ⟨h1, h2⟩)
        have HR : Hid _ := room_of (n := (fo j).length) (bytes := 16) (by omega) (by decide)
        have H1 : Hid _ := two_one (kOf A j) (vOf A j)
        have hbs : w.heap.size ≤ wr.heap.size := BN.out.size
        have OW := ON.out
        generalize kOf A j = y0 at *
        generalize vOf A j = y1 at *
        clear RS1
        go_wp2_with (at_builtin; refine app_oneL wr wr.heap.size rfl rfl _ _ 24 rfl w.heap.size 87 i0 _ 2 16 Try.underlying24 hi0 hz0 hz1 hz2 rfl (by decide) u7 _ _ rfl OW [.int .i64 y0, .int .i64 y1] rfl rfl H1.out HR.out.1 HR.out.2 hbs ?_)
        intro v5 w5 o5 c5 b5 l5
        have FIN : Hid _ := And.intro o5 (And.intro (owns_chg OAN.out c5 (fun g hg h => by have := LN.out g h; have := L1.out g hg; have := LA.out g hg; omega)) (And.intro (show ∀ g, v5.ownBlock = some g → g = w.heap.size + 1 ∨ w1.heap.size ≤ g from fun g hg => by
          rcases l5 g hg with h | h
          · exact LN.out g h
          · exact .inr (by omega)) (And.intro (BN.out.trans b5) (Nat.le_trans hsn b5.size))))
        clear o5 b5 c5 l5 OW t0 t1
        go_wp2
        go_roundw
        case rel => exact ⟨j + 1, by omega, by go_num, by rw [DS.out, flatP_append, List.length_append]; exact FIN.out.1, FIN.out.2.1, FIN.out.2.2.1, FIN.out.2.2.2.1, FIN.out.2.2.2.2⟩
        case measure => simp [intOf]; omega
    · have hjj : j = A.length := by omega
      have ON' : Hid (wr.ownsRow w.heap.size 87 2 u7 (fo A.length).length (flatP (fo A.length))) := by rw [← hjj]; exact ON
      clear ck cv2 ha
      go_wp2
      go_ret
      exact ⟨_, rfl, ON'.out, BN.out⟩

end Go.Proofs.Ytmpiijphpnjlnaa

namespace Go.Proofs.Ytmpiijphpnjlnaa
open Go.RowKit Go.Shelf

attribute [local go_sem] Oper.semAt_some

def encP (p : Int × Int) : Array Value := #[.agg #[.int .i64 p.1, .int .i64 p.2]]

theorem Cl.alloc {α : Type} {X : World → Nat → Prop} {J : List α → World → Prop} (h : Cl X J) {s : List α} {W : World} (hj : J s W) (o : Obj) : J s (W.alloc o) ∧ Kx X W (W.alloc o) := by
  have := h.kx hj (chg_alloc W o)
  exact ⟨this.1, this.2.1⟩
theorem take_pre (l : PL) (j : Nat) (h : j < l.length) : l.take j ++ [(kOf l j, vOf l j)] <+: l := by
  rw [← take_succP l j h]
  exact List.take_prefix _ _

set_option maxRecDepth 100000 in
set_option maxHeartbeats 2000000 in
theorem values1_in (B : Nat) (v : Value) (l : PL) (w : World) (hB : Boxed w B 24 v) (hv : w.ownsRow 0 87 2 v l.length (flatP l)) (hl : l.length ≤ 4194304) :
    Gives Try.prog 119 #[.pointer (some ⟨B, 0, none⟩)] encP (fun g => g = B ∨ v.ownBlock = some g) l w := by
  intro n lp X J Jx W hc hD hJ hJx hY h0
  obtain ⟨a, cap, rfl⟩ := owns_val hv
  have BW : Hid (Boxed W B 24 (.slice a l.length cap)) := (hc.block B hB.lt (fun h => h (.inl rfl))).trans hB
  have OW : Hid (W.ownsRow 0 87 2 (.slice a l.length cap) l.length (flatP l)) := owns_chg hv hc (fun g hg h => h (.inr hg))
  have DX : Hid (∀ g, (Value.slice a l.length cap).ownBlock = some g → ¬ X W g) := fun g hg => hD g (.inr hg)
  have hcap : cap ≤ maxLen := by
    obtain ⟨_, _, _, c', h1, _, h3, _⟩ := Row.of_owns OW.out
    cases h1
    exact h3
  unfold maxLen at hcap
  have c0 := BW.out.cell
  have HY : Hid (∀ pre x W1, J pre W1 → pre ++ [x] <+: l → YieldAt Fence.wide (n - 1) Try.prog lp (encP x) W1 fun e W' =>
      (e = .returned (.bool true) ∧ J (pre ++ [x]) W' ∧ Kx X W1 W') ∨ (e = .returned (.bool false) ∧ Jx (pre ++ [x]) W' ∧ Kx X W1 W')) := hY
  clear hY hc hB hv hD
  show CallsIn Fence.wide n Try.prog 119 #[.func (.yield lp) #[] #[], .pointer (some ⟨B, 0, none⟩)] W _
  refine callsIn_of_wp Try.func119 rfl trivial ?_ rfl
  simp only [Try.ntmps119, List.size_toArray, List.length_cons, List.length_nil, Nat.reduceAdd, Nat.reduceSub, Array.replicate_succ, Array.replicate_zero, List.push_toArray, List.append_toArray, List.nil_append, List.cons_append]
  gi_wp2
  gi_loopw [7] (fun i wr => ∃ j : Nat, j ≤ l.length ∧ i = .int .i64 j ∧ Hid (J (l.take j) wr) ∧ Hid (Kx X W wr)) (fun i _ => l.length - (intOf i).toNat)
  case atStart => exact ⟨0, Nat.zero_le _, rfl, h0, Kx.refl _ _⟩
  case round =>
    obtain ⟨j, hj, rfl, HJ, HK⟩ := hrel
    by_cases hlt : j < l.length
    · have OR : Hid (wr.ownsRow 0 87 2 (.slice a l.length cap) l.length (flatP l)) := owns_chg OW.out HK.out.chg DX.out
      obtain ⟨a', bv, off, cap', hav, hcap', hmax, ha, ck, cv2⟩ := (Row.of_owns OR.out).pairs
      simp only [Value.slice.injEq, true_and] at hav
      obtain ⟨rfl, rfl⟩ := hav
      have hal := ha (by omega)
      subst hal
      have t0 := ck j hlt
      have t1 := cv2 j hlt
      have AL : Hid _ := hJ.alloc HJ.out (.cells #[.int .i64 (kOf l j), .int .i64 (vOf l j)] 87)
      have PR : Hid (l.take j ++ [(kOf l j, vOf l j)] <+: l) := take_pre l j hlt
      have TS : Hid (l.take (j + 1) = l.take j ++ [(kOf l j, vOf l j)]) := take_succP l j hlt
      obtain ⟨fn, tmps, assign, body, hy, hR⟩ := HY.out (l.take j) (kOf l j, vOf l j) (wr.alloc (.cells #[.int .i64 (kOf l j), .int .i64 (vOf l j)] 87)) AL.out.1 PR.out
      dsimp only [encP] at hy
      clear ck cv2 ha hmax c0
      gi_wp2
      refine ⟨fun h => (by cases h), hR.mono ?_⟩
      rintro e W3 (⟨rfl, hJ3, hk3⟩ | ⟨rfl, hJx3, hk3⟩)
      · have FIN : Hid (J (l.take (j + 1)) W3 ∧ Kx X W W3) := ⟨by rw [TS.out]; exact hJ3, (HK.out.trans AL.out.2).trans hk3⟩
        clear hJ3 hk3 hR hy t0 t1
        gi_wp2
        go_roundw
        case rel => exact ⟨j + 1, by omega, by go_num, FIN.out.1, FIN.out.2⟩
        case measure => simp [intOf]; omega
      · have FIN : Hid ((∃ pre, pre <+: l ∧ Jx pre W3) ∧ Kx X W W3) := ⟨⟨_, PR.out, hJx3⟩, (HK.out.trans AL.out.2).trans hk3⟩
        clear hJx3 hk3 hR hy t0 t1
        gi_wp2
        refine bodyPost_ret (results_none rfl _ _ _) rfl ?_
        exact ⟨⟨_, rfl⟩, .inr FIN.out.1, FIN.out.2⟩
    · have hjj : j = l.length := by omega
      have FIN : Hid (J l wr ∧ Kx X W wr) := ⟨by have := HJ.out; rw [hjj, List.take_of_length_le (Nat.le_refl _)] at this; exact this, HK.out⟩
      gi_wp2
      go_end0
      exact ⟨⟨_, rfl⟩, .inl FIN.out.1, FIN.out.2⟩

end Go.Proofs.Ytmpiijphpnjlnaa

namespace Go.Proofs.Ytmpiijphpnjlnaa
open Go.RowKit

theorem trip3 {W : World} {R : Nat} {a b c : Value} (hR : W.heap[R]? = some (.cells #[a, b, c] 81 (0, 0))) : W.cell? ⟨R, 0, none⟩ = some a ∧ W.cell? ⟨R, 1, none⟩ = some b ∧ W.cell? ⟨R, 2, none⟩ = some c := by
  have h := fun j => cell_of_row W R j _ 81 (0, 0) hR
  exact ⟨by rw [h]; rfl, by rw [h]; rfl, by rw [h]; rfl⟩

open Go.Lib in
set_option maxHeartbeats 2000000 in
set_option maxRecDepth 100000 in
theorem grow_any (n : Nat) (w : World) (hn : n ≤ 8388608) :
    Calls Try.prog 120 #[.slice none 0 0, .int .i64 n] w fun e w' => ∃ v', e = .returned v' ∧ w'.ownsRow w.heap.size 81 3 v' 0 [] ∧ Below w.heap.size w w' := by
  obtain ⟨i0, hi0, hz0, hz1, hz2⟩ := info_parts Try.info81
  rcases Nat.eq_zero_or_pos n with rfl | hp
  · go_enter Try.func120, Try.ntmps120
    go_wp2
    go_ret
    exact ⟨_, rfl, World.ownsRow_nil _ _ _ _, Below.refl _ _⟩
  · have hrz : ∀ ty, (Builtin.append_ #[27, 3] ty #[.slice none 0 0, .int .i64 (n : Int)]).run Try.prog w =
        .ok (.slice (some ⟨w.heap.size, 0, none⟩) n (grownCap w n 0 81)) (w.drew.alloc (.cells (#[] ++ Builtin.zeroCells (Value.agg #[.int .i64 0, .int .i64 0, .int .i64 0]).cells n ++ Builtin.zeroCells (Value.agg #[.int .i64 0, .int .i64 0, .int .i64 0]).cells (grownCap w n 0 81 - n)) 81)) := fun ty => by
      have h := Lib.run_append_grow_zeros w 27 3 ty 81 i0 _ .i64 .i64 Try.underlying27 Try.underlying3 hi0 hz0 none 0 0 [] (run_firstCells_none w.drew i0.size 0 0 0) n hp (by rw [hz1]; decide) (by omega) (by omega)
        (by rw [hz2]; omega)
        (by rw [Nat.zero_add, hz2]; exact growslice_fits hp (by omega))
      rw [Nat.zero_add] at h
      exact h
    have HRZ : Hid _ := hrz
    have hGn : n ≤ grownCap w n 0 81 := grownCap_ge w _ _ _
    have hG63 := grownCap_le_maxLen w n 0 81 (by unfold maxLen; omega)
    generalize grownCap w n 0 81 = G at *
    have hb1 : (0 : Int) < (n : Int) := by omega
    have hb2 : ¬ ((n : Int) < 0) := by omega
    have hgm : G ≤ 9223372036854775807 := by
      have := hG63
      unfold maxLen at this
      omega
    have OW : Hid ((w.alloc (.cells (Builtin.zeroCells #[.int .i64 0, .int .i64 0, .int .i64 0] n ++ Builtin.zeroCells #[.int .i64 0, .int .i64 0, .int .i64 0] (G - n)) 81)).drew.ownsRow w.heap.size 81 3 (.slice (some ⟨w.heap.size, 0, none⟩) 0 G) 0 []) :=
      ⟨by simp, .inr ⟨w.heap.size, G, _, rfl, Nat.le_refl _, heap_alloc_new w _, Nat.zero_le _, hG63, by
        simp only [Array.size_append, size_zeroCells]
        show n * 3 + (G - n) * 3 = G * 3
        omega, by simp⟩⟩
    clear hrz hG63
    go_enter Try.func120, Try.ntmps120
    go_wp2_with (at_builtin; refine Lib.wpList_append_run _ rfl _ _ _ _ rfl _ _ rfl rfl _ _ (HRZ.out _) ?_)
    all_goals
      go_ret
      exact ⟨_, rfl, OW.out, ((Below.refl _ _).alloc (Nat.le_refl _) _).drew⟩

set_option maxHeartbeats 2000000 in
set_option maxRecDepth 100000 in
theorem concat_any (b : Nat) (v1 v2 : Value) (l1 l2 : ML) (w : World) (hb : w.heap[b]? = some (.cells #[v1, v2] 27 (0, 0))) (h1 : Row w v1 l1.length (flatM l1)) (h2 : Row w v2 l2.length (flatM l2)) (hn : l1.length + l2.length ≤ 2097152) :
    Calls Try.prog 96 #[.slice (some ⟨b, 0, none⟩) 2 2] w fun e w' => ∃ v', e = .returned v' ∧ w'.ownsRow w.heap.size 81 3 v' (l1 ++ l2).length (flatM (l1 ++ l2)) ∧ Below w.heap.size w w' := by
  obtain ⟨i0, hi0, hz0, hz1, hz2⟩ := info_parts Try.info81
  obtain ⟨a1, q1, rfl, _⟩ := h1.len
  obtain ⟨a2, q2, rfl, _⟩ := h2.len
  have c0 : w.cell? ⟨b, 0, none⟩ = some (.slice a1 l1.length q1) := by rw [cell_of_row w b 0 _ 27 (0, 0) hb]; rfl
  have c1 : w.cell? ⟨b, 1, none⟩ = some (.slice a2 l2.length q2) := by rw [cell_of_row w b 1 _ 27 (0, 0) hb]; rfl
  have R1 : Hid (Row w (.slice a1 l1.length q1) l1.length (flatM l1)) := h1
  have R2 : Hid (Row w (.slice a2 l2.length q2) l2.length (flatM l2)) := h2
  have C0 : Hid _ := c0
  have C1 : Hid _ := c1
  clear h1 h2 hb
  go_enter Try.func96, Try.ntmps96
  go_wp2
  go_loopw [3, 11] (fun sz i wr => w = wr ∧ ((i = .int .i64 0 ∧ sz = .int .i64 0) ∨ (i = .int .i64 1 ∧ sz = .int .i64 l1.length) ∨ (i = .int .i64 2 ∧ sz = .int .i64 (l1.length + l2.length)))) (fun _ i _ => 2 - (intOf i).toNat)
  case atStart => exact ⟨rfl, .inl ⟨rfl, rfl⟩⟩
  case round =>
    obtain ⟨rfl, hh⟩ := hrel
    rcases hh with ⟨rfl, rfl⟩ | ⟨rfl, rfl⟩ | ⟨rfl, rfl⟩
    · have hp : ¬ ((l1.length : Int) < 0) := by omega
      go_wp2
      go_roundw
      case rel => exact ⟨trivial, .inr (.inl ⟨by go_num, by go_num⟩)⟩
      case measure => simp [intOf]
    · have hp : ¬ ((l1.length : Int) + (l2.length : Int) < 0) := by omega
      go_wp2
      go_roundw
      case rel => exact ⟨trivial, .inr (.inr ⟨by go_num, by go_num⟩)⟩
      case measure => simp [intOf]
    · have hcast : ((l1.length : Int) + (l2.length : Int)) = ((l1.length + l2.length : Nat) : Int) := by omega
      have GA : Hid (Calls Try.prog 120 #[.slice none 0 0, .int .i64 ((l1.length : Int) + (l2.length : Int))] w fun e w' => ∃ v', e = .returned v' ∧ w'.ownsRow w.heap.size 81 3 v' 0 [] ∧ Below w.heap.size w w') := by
        rw [hcast]
        exact grow_any (l1.length + l2.length) w (by omega)
      clear hcast
      go_wp2_with fail
      refine Calls.mono GA.out ?_
      rintro e w2 ⟨v2, rfl, o2, hb2⟩
      have O2 : Hid (w2.ownsRow w.heap.size 81 3 v2 ([] : ML).length (flatM [])) := o2
      have B2 : Hid (Below w.heap.size w w2) := hb2
      clear o2 hb2 c0 c1
      go_wp2
      go_loopw [6, 27] (fun out i wr => Hid (Below w.heap.size w wr) ∧ ((i = .int .i64 0 ∧ Hid (wr.ownsRow w.heap.size 81 3 out ([] : ML).length (flatM []))) ∨ (i = .int .i64 1 ∧ Hid (wr.ownsRow w.heap.size 81 3 out l1.length (flatM l1))) ∨ (i = .int .i64 2 ∧ Hid (wr.ownsRow w.heap.size 81 3 out (l1 ++ l2).length (flatM (l1 ++ l2)))))) (fun _ i _ => 2 - (intOf i).toNat)
      case atStart => exact ⟨B2, .inl ⟨rfl, O2⟩⟩
      case round =>
        obtain ⟨BQ, hh⟩ := hrel
        clear O2 B2
        rcases hh with ⟨rfl, OQ⟩ | ⟨rfl, OQ⟩ | ⟨rfl, OQ⟩
        · have d0 := cell_lowB BQ.out (cell_lt C0.out) C0.out
          have RR : Hid _ := R1.out.below BQ.out
          have OW := OQ.out
          have HR : Hid (0 + l1.length ≤ maxLen ∧ (0 + l1.length) * 24 ≤ 140737488355328) := ⟨by unfold maxLen; omega, by omega⟩
          have H1 : Hid _ := flatM_one l1
          have HL : Hid _ := flatM_length l1
          have hbs : w.heap.size ≤ wr.heap.size := BQ.out.size
          go_wp2_with (at_builtin; refine app_row wr rfl _ _ 27 rfl w.heap.size 81 i0 _ 3 24 Try.underlying27 hi0 hz0 hz1 hz2 rfl (by decide) u6 0 [] rfl OW (.slice a1 l1.length q1) l1.length (flatM l1) rfl RR.out HL.out H1.out HR.out.1 HR.out.2 hbs ?_)
          intro v5 w5 o5 _ b5
          have FIN : Hid (w5.ownsRow w.heap.size 81 3 v5 l1.length (flatM l1) ∧ Below w.heap.size w w5) := ⟨o5, BQ.out.trans b5⟩
          clear o5 b5 OW d0
          go_wp2
          go_roundw
          case rel => exact ⟨FIN.out.2, .inr (.inl ⟨by go_num, FIN.out.1⟩)⟩
          case measure => simp [intOf]
        · have d0 := cell_lowB BQ.out (cell_lt C1.out) C1.out
          have RR : Hid _ := R2.out.below BQ.out
          have OW := OQ.out
          have HR : Hid (l1.length + l2.length ≤ maxLen ∧ (l1.length + l2.length) * 24 ≤ 140737488355328) := ⟨by unfold maxLen; omega, by omega⟩
          have H1 : Hid _ := flatM_one l2
          have HL : Hid _ := flatM_length l2
          have hbs : w.heap.size ≤ wr.heap.size := BQ.out.size
          go_wp2_with (at_builtin; refine app_row wr rfl _ _ 27 rfl w.heap.size 81 i0 _ 3 24 Try.underlying27 hi0 hz0 hz1 hz2 rfl (by decide) u6 _ _ rfl OW (.slice a2 l2.length q2) l2.length (flatM l2) rfl RR.out HL.out H1.out HR.out.1 HR.out.2 hbs ?_)
          intro v5 w5 o5 _ b5
          have FIN : Hid (w5.ownsRow w.heap.size 81 3 v5 (l1 ++ l2).length (flatM (l1 ++ l2)) ∧ Below w.heap.size w w5) := ⟨by rw [flatM_append, List.length_append]; exact o5, BQ.out.trans b5⟩
          clear o5 b5 OW d0
          go_wp2
          go_roundw
          case rel => exact ⟨FIN.out.2, .inr (.inr ⟨by go_num, FIN.out.1⟩)⟩
          case measure => simp [intOf]
        · go_wp2
          go_ret
          exact ⟨_, rfl, OQ.out, BQ.out⟩

theorem mineK_succ (cs : List Int) (i : Nat) (ms : ML) (j : Nat) (h : j < ms.length) : mineK cs i (ms.take (j + 1)) = if cntK cs (mK ms j) cs.length = i then mineK cs i (ms.take j) ++ [(mO ms j, mK ms j, mV ms j)] else mineK cs i (ms.take j) := by
  rw [take_succM ms j h, mineK, List.filter_append]
  by_cases hk : cntK cs (mK ms j) cs.length = i
  · simp [hk, mineK]
  · simp [hk, mineK]
theorem mineK_length (cs : List Int) (i : Nat) (ms : ML) : (mineK cs i ms).length ≤ ms.length := List.length_filter_le _ _

set_option maxHeartbeats 2000000 in
set_option maxRecDepth 100000 in
theorem msgsOfKid_any (vc : Value) (cs : List Int) (i : Nat) (vm : Value) (ms : ML) (w : World) (hc : Row w vc cs.length (flatI cs)) (hm : Row w vm ms.length (flatM ms)) (hn : ms.length ≤ 2097152) :
    Calls Try.prog 97 #[vc, .int .i64 i, vm] w fun e w' => ∃ v', e = .returned v' ∧ w'.ownsRow w.heap.size 81 3 v' (mineK cs i ms).length (flatM (mineK cs i ms)) ∧ Below w.heap.size w w' := by
  obtain ⟨i0, hi0, hz0, hz1, hz2⟩ := info_parts Try.info81
  obtain ⟨a, b, off, cap, rfl, hcap, hmax, ha, ho, hk, hv⟩ := hm.msgs
  unfold maxLen at hmax
  have RC : Hid (Row w vc cs.length (flatI cs)) := hc
  have MS : Hid (∀ j, j < ms.length → mineK cs i (ms.take (j + 1)) = if cntK cs (mK ms j) cs.length = i then mineK cs i (ms.take j) ++ [(mO ms j, mK ms j, mV ms j)] else mineK cs i (ms.take j)) := fun j hj => mineK_succ cs i ms j hj
  have MF : Hid (mineK cs i (ms.take ms.length) = mineK cs i ms) := by
    show _ = _
    rw [List.take_of_length_le (Nat.le_refl _)]
  have ML1 : Hid (∀ j, (mineK cs i (ms.take j)).length ≤ 2097152) := fun j => Nat.le_trans (mineK_length _ _ _) (Nat.le_trans (List.length_take_le' _ _) hn)
  have KA : Hid (∀ (k : Int) (w1 : World), Below w.heap.size w w1 → Calls Try.prog 39 #[vc, .int .i64 k] w1 fun e w' => e = .returned (.int .i64 (cntK cs k cs.length : Nat)) ∧ Below w1.heap.size w1 w') := fun k w1 hb => kidAt_any vc cs k w1 (RC.out.below hb)
  rw [← MF.out]
  generalize hfo : (fun j => mineK cs i (ms.take j)) = fo
  have hfo' : ∀ j, mineK cs i (ms.take j) = fo j := fun j => by rw [← hfo]
  have M0 : Hid (fo 0 = []) := by
    show _ = _
    rw [← hfo]; rfl
  simp only [hfo'] at MS MF ML1 ⊢
  clear hfo hfo' hc hm MF
  go_enter Try.func97, Try.ntmps97
  go_wp2
  go_loopw [7, 12] (fun out ii wr => ∃ j : Nat, j ≤ ms.length ∧ ii = .int .i64 j ∧ Hid (wr.ownsRow w.heap.size 81 3 out (fo j).length (flatM (fo j))) ∧ Hid (Below w.heap.size w wr))
    (fun _ ii _ => ms.length - (intOf ii).toNat)
  case atStart => exact ⟨0, Nat.zero_le _, rfl, by rw [M0.out]; exact World.ownsRow_nil _ _ _ _, Below.refl _ _⟩
  case round =>
    obtain ⟨j, hj, rfl, ON, BN⟩ := hrel
    by_cases hlt : j < ms.length
    · have hal := ha (by omega)
      subst hal
      have d0 := cell_lowB BN.out (cell_lt (ho j hlt)) (ho j hlt)
      have d1 := cell_lowB BN.out (cell_lt (hk j hlt)) (hk j hlt)
      have d2 := cell_lowB BN.out (cell_lt (hv j hlt)) (hv j hlt)
      have MS1 : Hid _ := MS.out j hlt
      have hml := ML1.out j
      have BA : Hid (Below w.heap.size w (wr.alloc (.cells #[.int .i64 (mO ms j), .int .i64 (mK ms j), .int .i64 (mV ms j)] 81))) := BN.out.alloc BN.out.size _
      have OA : Hid _ := ON.out.alloc (.cells #[.int .i64 (mO ms j), .int .i64 (mK ms j), .int .i64 (mV ms j)] 81)
      have MA : Hid _ := heap_alloc_new wr (.cells #[.int .i64 (mO ms j), .int .i64 (mK ms j), .int .i64 (mV ms j)] 81)
      have KC : Hid _ := KA.out (mK ms j) _ BA.out
      generalize mO ms j = x0 at *
      generalize mK ms j = x1 at *
      generalize mV ms j = x2 at *
      clear ho hk hv ha ON BN
      generalize hcn : cntK cs x1 cs.length = CN at *
      go_wp2_with fail
      refine Calls.mono KC.out ?_
      rintro e w1 ⟨rfl, b1⟩
      have B1 : Hid (Below w.heap.size w w1) := Below.and BA.out b1
      have O1 : Hid (w1.ownsRow w.heap.size 81 3 u7 (fo j).length (flatM (fo j))) := owns_below OA.out b1
      have M1 : Hid (w1.heap[wr.heap.size]? = some (.cells #[.int .i64 x0, .int .i64 x1, .int .i64 x2] 81 (0, 0))) := by
        show _ = _
        rw [b1.block _ (by simp)]; exact MA.out
      obtain ⟨m0, m1, m2⟩ := trip3 M1.out
      clear d0 d1 d2 b1 BA OA MA
      by_cases hq : CN = i
      · subst hq
        have DS : Hid (fo (j + 1) = fo j ++ [(x0, x1, x2)]) := MS1.out.trans (if_pos rfl)
        have HR : Hid _ := room_of (n := (fo j).length) (bytes := 24) (by omega) (by decide)
        have H1 : Hid _ := three_one x0 x1 x2
        have hbs : w.heap.size ≤ w1.heap.size := B1.out.size
        have OW := O1.out
        clear MS1
        go_wp2_with (at_builtin; refine app_one w1 rfl _ _ 27 rfl w.heap.size 81 i0 _ 3 24 Try.underlying27 hi0 hz0 hz1 hz2 rfl (by decide) u7 _ _ rfl OW [.int .i64 x0, .int .i64 x1, .int .i64 x2] rfl rfl H1.out HR.out.1 HR.out.2 hbs ?_)
        intro v5 w5 o5 _ b5
        have FIN : Hid _ := And.intro o5 (B1.out.trans b5)
        clear o5 b5 OW m0 m1 m2
        go_wp2
        go_roundw
        case rel => exact ⟨j + 1, by omega, by go_num, by rw [DS.out, flatM_append, List.length_append]; exact FIN.out.1, FIN.out.2⟩
        case measure => simp [intOf]; omega
      · have DS : Hid (fo (j + 1) = fo j) := MS1.out.trans (if_neg hq)
        have e4 : ((CN : Int) == (i : Int)) = false := by rw [beq_eq_false_iff_ne]; omega
        clear MS1
        go_wp2
        go_roundw
        case rel => exact ⟨j + 1, by omega, by go_num, by rw [DS.out]; exact O1, B1⟩
        case measure => simp [intOf]; omega
    · have hjj : j = ms.length := by omega
      have ON' : Hid (wr.ownsRow w.heap.size 81 3 u7 (fo ms.length).length (flatM (fo ms.length))) := by rw [← hjj]; exact ON
      clear ho hk hv ha
      go_wp2
      go_ret
      exact ⟨_, rfl, ON'.out, BN.out⟩

end Go.Proofs.Ytmpiijphpnjlnaa

namespace Go.Proofs.Ytmpiijphpnjlnaa
open Go.RowKit Go.Shelf

attribute [local go_sem] Oper.semAt_some

/-- what is shown of told at trees of a depth of at most m -/
def ToldIs (m : Nat) : Prop := ∀ (n : Nat) (x : TV) (T : Tr) (lo hi : Int) (w0 w : World) (va : Value) (ab : ML), TreeAt n w0 x T → Below w0.heap.size w0 w → w.ownsRow 0 81 3 va ab.length (flatM ab) → depthF m T lo hi ≠ 0 → ab.length + 6 * m ≤ 100 →
  Calls Try.prog 67 #[x.val, va] w fun e w' => ∃ (gf : Nat) (lb : Array Value) (Dta : Nat → Prop), e = .returned (.func (.func gf) #[] lb) ∧ (∀ args u, (callFunc gf args).run Try.prog u = .ok (.enter gf args) u) ∧ Gives Try.prog gf lb encP Dta (toldF m T ab) w' ∧
    (∀ g, Dta g → g < w'.heap.size) ∧ (∀ g, Dta g → g < w0.heap.size ∨ va.ownBlock = some g ∨ w.heap.size ≤ g) ∧ Below w.heap.size w w'

theorem below_chg {n : Nat} {a b c : World} {F : Nat → Prop} (h : Below n a b) (k : Chg F b c) (hn : n ≤ b.heap.size) (hF : ∀ g, g < n → ¬ F g) : Below n a c :=
  ⟨k.os.trans h.os, k.tape.trans h.tape, k.output.trans h.output, Nat.le_trans h.size k.size, fun g hg => (k.block g (by omega) (hF g hg)).trans (h.block g hg)⟩

/-- the marks that ranges over functions leave behind -/
def mkD (d : Nat) : Deferred := { target := .collected d, args := #[] }
theorem leaves_marks {n : Nat} {P : Program} {fn : Func} {tmps : Array Value} {R : Ending → World → Prop} : ∀ (ds : List Nat) (W : World), (∀ d ∈ ds, W.heap[d]? = some (.deferred (some []))) → ds.Nodup →
    (∀ W', Chg (fun g => g ∈ ds) W W' → LeavesInM Fence.wide n P fn tmps R [] .returning W') → LeavesInM Fence.wide n P fn tmps R (ds.map mkD) .returning W
  | [], W, _, _, h => h W (Chg.refl _ _)
  | d :: ds, W, hd, hn, h => by
    have h0 := hd d List.mem_cons_self
    obtain ⟨hn1, hn2⟩ := List.nodup_cons.1 hn
    refine ⟨by simp, .inl ⟨d, _, rfl, run_takeDeferred h0, leaves_marks ds _ (fun d' hd' => ?_) hn2 fun W' hc => h W' ?_⟩⟩
    · rw [World.putObj_heap_other (fun e => hn1 (by subst e; exact hd'))]
      exact hd d' (List.mem_cons_of_mem _ hd')
    · exact (chg_putObj (F := fun g => g ∈ d :: ds) W d _ List.mem_cons_self).trans hc fun g _ hg => List.mem_cons_of_mem _ hg

/-- what the first kids have told -/
def accT (m : Nat) (T : Tr) (ab : ML) (j : Nat) : PL := ((List.range j).map fun i => toldF m (kidT T i) (mineK T.cuts i (T.buf ++ ab))).flatten
theorem accT_succ (m : Nat) (T : Tr) (ab : ML) (j : Nat) : accT m T ab (j + 1) = accT m T ab j ++ toldF m (kidT T j) (mineK T.cuts j (T.buf ++ ab)) := by
  simp [accT, List.range_succ]
theorem accT_le (m : Nat) (T : Tr) (ab : ML) {i j : Nat} (h : i ≤ j) : accT m T ab i <+: accT m T ab j := by
  induction h with
  | refl => exact List.prefix_refl _
  | step _ ih => exact ih.trans ⟨_, (accT_succ m T ab _).symm⟩
theorem accT_full {m : Nat} {T : Tr} (ab : ML) (hl : T.leaf = false) : accT m T ab T.kids.length = toldF (m + 1) T ab := by
  rw [toldF, if_neg (by rw [hl]; simp)]; rfl
theorem pre_app {α : Type} {A B L : List α} (h : A ++ B <+: L) {p : List α} (hp : p <+: B) : A ++ p <+: L := by
  obtain ⟨r, rfl⟩ := hp
  obtain ⟨t, rfl⟩ := h
  exact ⟨r ++ t, by simp⟩

/-- the end of all: the marks are struck -/
theorem Kx.marks {X : World → Nat → Prop} {W W2 W' : World} {ds : List Nat} (h : Kx X W W2) (hc : Chg (fun g => g ∈ ds) W2 W') (hd : ∀ d ∈ ds, W.heap.size ≤ d) (hx : ∀ g, X W' g ↔ X W2 g) : Kx X W W' :=
  ⟨h.chg.trans hc fun _ hg hm => absurd (hd _ hm) (by omega), fun g hg => h.sub g ((hx g).1 hg)⟩

/-- the caller's blocks and those of the iterator itself that must lie -/
def XM (X : World → Nat → Prop) (lo : Nat) (wr : World) (W : World) (g : Nat) : Prop := X W g ∨ (lo ≤ g ∧ g < wr.heap.size ∧ ¬ X wr g)
/-- the caller's invariant, and what the iterator itself must find again -/
def IM (X : World → Nat → Prop) (J : PL → World → Prop) (A : PL) (lo : Nat) (wr : World) (s : PL) (W : World) : Prop :=
  J (A ++ s) W ∧ (∀ g, (lo ≤ g ∧ g < wr.heap.size ∧ ¬ X wr g) → W.heap[g]? = wr.heap[g]?) ∧ (∀ g, X W g → X wr g ∨ wr.heap.size ≤ g) ∧ wr.heap.size ≤ W.heap.size
theorem IM.cl {X : World → Nat → Prop} {J : PL → World → Prop} (hJ : Cl X J) (A : PL) (lo : Nat) (wr : World) : Cl (XM X lo wr) (IM X J A lo wr) := by
  refine ⟨fun s W g h hx => ?_, fun s W W' h hc => ?_⟩
  · rcases hx with hx | hx
    · exact hJ.lt _ W g h.1 hx
    · exact Nat.lt_of_lt_of_le hx.2.1 h.2.2.2
  · obtain ⟨h1, h2, h3, h4⟩ := h
    obtain ⟨k1, k2⟩ := hJ.abide _ W W' h1 (hc.mono fun g _ hn hx => hn (.inl hx))
    exact ⟨⟨k1, fun g hg => (hc.block g (Nat.lt_of_lt_of_le hg.2.1 h4) (fun hn => hn (.inr hg))).trans (h2 g hg), fun g hg => h3 g ((k2 g).1 hg), Nat.le_trans h4 hc.size⟩, fun g => by
      show (X W' g ∨ _) ↔ (X W g ∨ _)
      rw [k2 g]⟩
theorem Kx.xm {X : World → Nat → Prop} {lo : Nat} {wr W W' : World} (h : Kx X W W') : Kx (XM X lo wr) W W' :=
  ⟨h.chg.mono fun _ _ hx => .inl hx, fun g hg => hg.elim (fun hx => (h.sub g hx).elim (fun h => .inl (.inl h)) .inr) fun hm => .inl (.inr hm)⟩
theorem Cl.and_const {α : Type} {X : World → Nat → Prop} {J : List α → World → Prop} (h : Cl X J) (p : Prop) : Cl X (fun s W => p ∧ J s W) :=
  ⟨fun s W g hj hx => h.lt s W g hj.2 hx, fun s W W' hj hc => by
    have := h.abide s W W' hj.2 hc
    exact ⟨⟨hj.1, this.1⟩, this.2⟩⟩
/-- a round goes on -/
theorem IM.next {X : World → Nat → Prop} {J J' : PL → World → Prop} {A : PL} {lo : Nat} {wr : World} {s s' : PL} {W W' : World} (h : IM X J A lo wr s W) (hk : Kx X W W') (hj : J' (A ++ s') W') : IM X J' A lo wr s' W' := by
  obtain ⟨_, h2, h3, h4⟩ := h
  refine ⟨hj, fun g hg => (hk.chg.block g (Nat.lt_of_lt_of_le hg.2.1 h4) (fun hx => ?_)).trans (h2 g hg), fun g hg => (hk.sub g hg).elim (h3 g) fun h' => .inr (Nat.le_trans h4 h'), Nat.le_trans h4 hk.chg.size⟩
  exact (h3 g hx).elim hg.2.2 fun h' => by have := hg.2.1; omega
/-- behind the inner loop the caller's own changes alone are seen -/
theorem IM.back {X : World → Nat → Prop} {J : PL → World → Prop} {A : PL} {wr wa W W2 : World} {s : PL} (h : IM X J A W.heap.size wr s W2) (hb : Below wr.heap.size wr wa) (hxa : ∀ g, X wa g ↔ X wr g) (h2 : Kx (XM X W.heap.size wr) wa W2) : Kx X wr W2 := by
  obtain ⟨_, m2, m3, m4⟩ := h
  refine ⟨⟨h2.chg.os.trans hb.os, h2.chg.tape.trans hb.tape, h2.chg.output.trans hb.output, m4, fun g hg hn => ?_⟩, m3⟩
  by_cases hlo : W.heap.size ≤ g
  · exact m2 g ⟨hlo, hg, hn⟩
  · refine (h2.chg.block g (Nat.lt_of_lt_of_le hg hb.size) (fun hx => ?_)).trans (hb.block g hg)
    rcases hx with hx | hx
    · exact hn ((hxa g).1 hx)
    · exact hlo hx.1

set_option maxRecDepth 100000 in
set_option maxHeartbeats 4000000 in
theorem told1_in {m : Nat} (H : ToldIs m) (n : Nat) (x : TV) (T : Tr) (lo hi : Int) (w0 w : World) (B : Nat) (va : Value) (ab : ML) (ht : TreeAt (n + 1) w0 x T) (bw : Below w0.heap.size w0 w) (hva : w.ownsRow 0 81 3 va ab.length (flatM ab)) (hd : depthF (m + 1) T lo hi ≠ 0) (hl : T.leaf = false)
    (hab : ab.length + 6 * (m + 1) ≤ 100) (hB : OneAt w B #[.bool x.lf, x.p, x.c, x.k, x.b]) (hB2 : Boxed w (B + 1) 27 va) :
    Gives Try.prog 95 #[.pointer (some ⟨B, 0, none⟩), .pointer (some ⟨B + 1, 0, none⟩)] encP (fun g => g < w0.heap.size ∨ va.ownBlock = some g ∨ g = B ∨ g = B + 1) (toldF (m + 1) T ab) w := by
  intro k l X J Jx W hc hD hJ hJx hY h0
  have bW : Hid (Below w0.heap.size w0 W) := below_chg bw hc bw.size (fun g hg h => h (.inl hg))
  have SB : Hid (OneAt W B #[.bool x.lf, x.p, x.c, x.k, x.b]) := (hc.block B (Array.getElem?_eq_some_iff.1 hB).1 (fun h => h (.inr (.inr (.inl rfl))))).trans hB
  have SB2 : Hid (Boxed W (B + 1) 27 va) := (hc.block (B + 1) hB2.lt (fun h => h (.inr (.inr (.inr rfl))))).trans hB2
  have OA : Hid (W.ownsRow 0 81 3 va ab.length (flatM ab)) := owns_chg hva hc (fun g hg h => h (.inr (.inl hg)))
  obtain ⟨av, cv, rfl⟩ := owns_val hva
  have TT : Hid (TreeAt (n + 1) w0 x T) := ht
  obtain ⟨_, _, hcut, hbuf, hkids⟩ := ht.parts
  obtain ⟨a1, a2, a3, a4, q1, q2, q3, q4, hx⟩ := ht.shape
  subst hx
  simp only at hcut hbuf hkids SB
  rw [hl] at SB
  have RB : Hid (Row W (.slice a4 T.buf.length q4) T.buf.length (flatM T.buf)) := hbuf.below bW.out
  have RA : Hid (Row W (.slice av ab.length cv) ab.length (flatM ab)) := Row.of_owns OA.out
  have RC : Hid (Row w0 (.slice a2 T.cuts.length q2) T.cuts.length (flatI T.cuts)) := hcut
  have HKD : Hid (TreesAt n w0 (.slice a3 T.kids.length q3) T.kids) := hkids
  clear hc hB hB2 hva ht hcut hbuf hkids
  have hf := depthF_fork_ok hd hl
  obtain ⟨_, hk24, hk1, hb6, _, _⟩ := forkOk_parts hf.1
  obtain ⟨k0, k1, k2, k3, k4⟩ := box_cells5 SB.out
  have j0 := SB2.out.cell
  have lB : B < W.heap.size := (Array.getElem?_eq_some_iff.1 SB.out).1
  have lB2 : B + 1 < W.heap.size := SB2.out.lt
  show CallsIn Fence.wide k Try.prog 95 #[.func (.yield l) #[] #[], .pointer (some ⟨B, 0, none⟩), .pointer (some ⟨B + 1, 0, none⟩)] W _
  refine callsIn_of_wp_marks Try.func95 rfl trivial ?_ rfl
  simp only [Try.ntmps95, List.size_toArray, List.length_cons, List.length_nil, Nat.reduceAdd, Nat.reduceSub, Array.replicate_succ, Array.replicate_zero, List.push_toArray, List.append_toArray, List.nil_append, List.cons_append]
  have B01 : Hid (Below W.heap.size W ((W.alloc (.cells #[.func (.yield l) #[] #[]] 125)).alloc (.cells #[.slice a4 T.buf.length q4, .slice av ab.length cv] 27))) := ((Below.refl _ _).alloc (Nat.le_refl _) _).alloc (by simp) _
  have HB : Hid (((W.alloc (.cells #[.func (.yield l) #[] #[]] 125)).alloc (.cells #[.slice a4 T.buf.length q4, .slice av ab.length cv] 27)).heap[W.heap.size + 1]? = some (.cells #[.slice a4 T.buf.length q4, .slice av ab.length cv] 27 (0, 0))) := by
    have := heap_alloc_new (W.alloc (.cells #[.func (.yield l) #[] #[]] 125)) (.cells #[.slice a4 T.buf.length q4, .slice av ab.length cv] 27)
    rw [World.size_alloc] at this
    exact this
  have YB : Hid (Boxed ((W.alloc (.cells #[.func (.yield l) #[] #[]] 125)).alloc (.cells #[.slice a4 T.buf.length q4, .slice av ab.length cv] 27)) W.heap.size 125 (.func (.yield l) #[] #[])) := (Boxed.new W 125 _).alloc _
  have Z1 : Hid (((W.alloc (.cells #[.func (.yield l) #[] #[]] 125)).alloc (.cells #[.slice a4 T.buf.length q4, .slice av ab.length cv] 27)).heap.size = W.heap.size + 2) := by
    show _ = _
    simp
  gi_wp2_with fail
  refine ⟨trivial, fun h => (by cases h), (callsIn_wide.2 (concat_any (W.heap.size + 1) (.slice a4 T.buf.length q4) (.slice av ab.length cv) T.buf ab _ HB.out (RB.out.below B01.out) (RA.out.below B01.out) (by omega))).mono ?_⟩
  rintro e W1 ⟨v4, rfl, o4, b4⟩
  have B1 : Hid (Below W.heap.size W W1) := Below.and B01.out b4
  have Y1 : Hid (Boxed W1 W.heap.size 125 (.func (.yield l) #[] #[])) := (b4.block _ YB.out.lt).trans YB.out
  have O4 : Hid (W1.ownsRow (W.heap.size + 2) 81 3 v4 (T.buf ++ ab).length (flatM (T.buf ++ ab))) := owns_mono o4 (by rw [Z1.out]; exact Nat.le_refl _)
  have S1 : Hid (OneAt W1 B _) := SB.out.step B1.out
  clear k0 k1 k2 k3 k4 j0 o4 b4 B01 HB YB Z1
  obtain ⟨k0, k1, k2, k3, k4⟩ := box_cells5 S1.out
  gi_wp2_with fail
  obtain ⟨j1, kx1, xx1⟩ := hJ.kx h0 (Chg.of_below B1.out)
  have lo1 : Hid (∀ g, X W1 g → g < W.heap.size) := fun g hg => hJ.lt [] W g h0 ((xx1 g).1 hg)
  refine wpIn_loop (fun a' wr => ∃ (j : Nat) (ds : List Nat) (u5 u6 u16 u17 u18 u19 u20 u21 u22 u23 u24 u25 u26 u27 u33 : Value), (j ≤ T.kids.length ∧ u16 = .int .i64 j ∧ Hid (J (accT m T ab j) wr) ∧ Hid (Kx X W wr) ∧ Hid (Boxed wr W.heap.size 125 (.func (.yield l) #[] #[]) ∧ ¬ X wr W.heap.size) ∧ Hid (wr.ownsRow (W.heap.size + 2) 81 3 v4 (T.buf ++ ab).length (flatM (T.buf ++ ab)) ∧ ∀ g, v4.ownBlock = some g → ¬ X wr g) ∧ Hid ((∀ d ∈ ds, W.heap.size ≤ d ∧ wr.heap[d]? = some (.deferred (some [])) ∧ ¬ X wr d) ∧ ds.Nodup)) ∧
      a' = { tmps := #[.func (.yield l) #[] #[], .pointer (some ⟨B, 0, none⟩), .pointer (some ⟨B + 1, 0, none⟩), .pointer (some ⟨W.heap.size, 0, none⟩), v4, u5, u6, undef, .pointer (some ⟨B, 4, none⟩), .slice a4 T.buf.length q4, .slice av ab.length cv, .slice (some ⟨W.heap.size + 1, 0, none⟩) 2 2, v4, .pointer (some ⟨B, 3, none⟩), .slice a3 T.kids.length q3, .int .i64 T.kids.length, u16, u17, u18, u19, u20, u21, u22, u23, u24, u25, u26, u27, undef, undef, undef, undef, undef, u33], defers := ds.map mkD })
    (fun a' _ => T.kids.length - (intOf (a'.tmps.getD 16 undef)).toNat) ?_ ?_
  · refine ⟨0, [], _, _, _, _, _, _, _, _, _, _, _, _, _, _, _, ⟨Nat.zero_le _, rfl, j1, kx1, ⟨Y1.out, fun hx => absurd (lo1.out _ hx) (Nat.lt_irrefl _)⟩, ⟨O4.out, fun g hg hx => ?_⟩, ⟨fun d hd => by simp at hd, List.nodup_nil⟩⟩, rfl⟩
    have h1 := (O4.out.lt g hg).1
    have h2 := lo1.out _ hx
    omega
  · clear k0 k1 k2 k3 k4 j1 kx1 xx1 lo1 Y1 O4 S1 B1 W1 h0
    rintro a' wr ⟨j, ds, u5, u6, u16, u17, u18, u19, u20, u21, u22, u23, u24, u25, u26, u27, u33, ⟨hj, rfl, JJ, KK, YY, OO, DD⟩, rfl⟩
    refine wpIn_wide.2 ?_
    dsimp only
    have BWR : Hid (Below w0.heap.size w0 wr) := below_chg bW.out KK.out.chg bW.out.size (fun g hg hx => hD g (.inl hg) hx)
    have SBR : Hid (OneAt wr B #[.bool false, .slice a1 T.pairs.length q1, .slice a2 T.cuts.length q2, .slice a3 T.kids.length q3, .slice a4 T.buf.length q4]) := (KK.out.chg.block B lB (fun hx => hD B (.inr (.inr (.inl rfl))) hx)).trans SB.out
    have lBr : B < wr.heap.size := (Array.getElem?_eq_some_iff.1 SBR.out).1
    have hWr : W.heap.size ≤ wr.heap.size := KK.out.chg.size
    by_cases hlt : j < T.kids.length
    · obtain ⟨xs, hxl, hrow, hk⟩ := HKD.out
      obtain ⟨a3', b3, off3, cap3, hv3, hcap3, hmax3, ha3, c0, c1, c2, c3, c4⟩ := hrow.trees
      simp only [Value.slice.injEq] at hv3
      obtain ⟨rfl, hlen, rfl⟩ := hv3
      have hal := ha3 (by omega)
      subst hal
      have hltx : j < xs.length := by omega
      clear hlen
      have TK : TreeAt n w0 (tvAt xs j) (kidT T j) := hk _ hltx
      obtain ⟨r1, r2, r3, r4, s1, s2, s3, s4, hy⟩ := TK.shape
      have d0 := c0 _ hltx
      have d1 := c1 _ hltx
      have d2 := c2 _ hltx
      have d3 := c3 _ hltx
      have d4 := c4 _ hltx
      rw [hy] at d0 d1 d2 d3 d4 TK
      simp only at d0 d1 d2 d3 d4
      replace d0 := cell_lowB BWR.out (cell_lt d0) d0
      replace d1 := cell_lowB BWR.out (cell_lt d1) d1
      replace d2 := cell_lowB BWR.out (cell_lt d2) d2
      replace d3 := cell_lowB BWR.out (cell_lt d3) d3
      replace d4 := cell_lowB BWR.out (cell_lt d4) d4
      have hdk : depthF m (kidT T j) (fromT T lo j) (toT T hi j) ≠ 0 := hf.2 j hlt
      have hml : (mineK T.cuts j (T.buf ++ ab)).length + 6 * m ≤ 100 := by
        have := mineK_length T.cuts j (T.buf ++ ab)
        rw [List.length_append] at this
        omega
      have HT : Hid (∀ (w1 : World) (v5 : Value), Below w0.heap.size w0 w1 → w1.ownsRow 0 81 3 v5 (mineK T.cuts j (T.buf ++ ab)).length (flatM (mineK T.cuts j (T.buf ++ ab))) → Calls Try.prog 67 #[.agg #[.bool (kidT T j).leaf, .slice r1 (kidT T j).pairs.length s1, .slice r2 (kidT T j).cuts.length s2, .slice r3 (kidT T j).kids.length s3, .slice r4 (kidT T j).buf.length s4], v5] w1 fun e w' => ∃ (gf : Nat) (lb : Array Value) (Dta : Nat → Prop), e = .returned (.func (.func gf) #[] lb) ∧ (∀ args u, (callFunc gf args).run Try.prog u = .ok (.enter gf args) u) ∧ Gives Try.prog gf lb encP Dta (toldF m (kidT T j) (mineK T.cuts j (T.buf ++ ab))) w' ∧
          (∀ g, Dta g → g < w'.heap.size) ∧ (∀ g, Dta g → g < w0.heap.size ∨ v5.ownBlock = some g ∨ w1.heap.size ≤ g) ∧ Below w1.heap.size w1 w') :=
        fun w1 v5 hb ho => H n ⟨(kidT T j).leaf, .slice r1 (kidT T j).pairs.length s1, .slice r2 (kidT T j).cuts.length s2, .slice r3 (kidT T j).kids.length s3, .slice r4 (kidT T j).buf.length s4⟩ (kidT T j) _ _ w0 w1 v5 _ TK hb ho hdk hml
      have hcl : (T.buf ++ ab).length ≤ 2097152 := by rw [List.length_append]; omega
      have HM : Hid (∀ w1, Below wr.heap.size wr w1 → Calls Try.prog 97 #[.slice a2 T.cuts.length q2, .int .i64 j, v4] w1 fun e w' => ∃ v', e = .returned v' ∧ w'.ownsRow w1.heap.size 81 3 v' (mineK T.cuts j (T.buf ++ ab)).length (flatM (mineK T.cuts j (T.buf ++ ab))) ∧ Below w1.heap.size w1 w') :=
        fun w1 hb => msgsOfKid_any (.slice a2 T.cuts.length q2) T.cuts j v4 (T.buf ++ ab) w1 ((RC.out.below BWR.out).below hb) ((Row.of_owns OO.out.1).below hb) hcl
      have AP : Hid (accT m T ab (j + 1) = accT m T ab j ++ toldF m (kidT T j) (mineK T.cuts j (T.buf ++ ab))) := accT_succ m T ab j
      have PF : Hid (accT m T ab j ++ toldF m (kidT T j) (mineK T.cuts j (T.buf ++ ab)) <+: toldF (m + 1) T ab) := by
        rw [← AP.out, ← accT_full ab hl]
        exact accT_le m T ab (by omega)
      rw [hxl] at hcap3
      clear c0 c1 c2 c3 c4 hk TK hy hdk hrow ha3 hml hcl hxl hltx
      generalize toldF m (kidT T j) (mineK T.cuts j (T.buf ++ ab)) = LJ at *
      generalize mineK T.cuts j (T.buf ++ ab) = MI at *
      generalize (kidT T j).leaf = z0 at *
      generalize (kidT T j).pairs.length = z1 at *
      generalize (kidT T j).cuts.length = z2 at *
      generalize (kidT T j).kids.length = z3 at *
      generalize (kidT T j).buf.length = z4 at *
      unfold maxLen at hmax3
      have hj1 : (0 : Int) ≤ (j : Int) := by omega
      have hj2 : (j : Int) < (T.kids.length : Int) := by omega
      go_upto_region 5 with fail
      refine wp_gen (fun V => OneAt V wr.heap.size #[.bool z0, .slice r1 z1 s1, .slice r2 z2 s2, .slice r3 z3 s3, .slice r4 z4 s4] ∧ OneAt V B #[.bool false, .slice a1 T.pairs.length q1, .slice a2 T.cuts.length q2, .slice (some ⟨b3, off3, none⟩) T.kids.length q3, .slice a4 T.buf.length q4] ∧ Below wr.heap.size wr V ∧ wr.heap.size + 1 ≤ V.heap.size) ⟨OneAt.start wr _, SBR.out.step ((Below.refl _ _).alloc (Nat.le_refl _) _), (Below.refl _ _).alloc (Nat.le_refl _) _, by simp⟩ ?_
      rintro wa ⟨sa, sb, ba, hsa⟩
      have BWA : Hid (Below wr.heap.size wr wa) := ba
      have KEEP : Hid (∀ w', Below wa.heap.size wa w' → w'.cell? ⟨wr.heap.size, 0, none⟩ = some (.bool z0) ∧ w'.cell? ⟨wr.heap.size, 1, none⟩ = some (.slice r1 z1 s1) ∧ w'.cell? ⟨wr.heap.size, 2, none⟩ = some (.slice r2 z2 s2) ∧ w'.cell? ⟨wr.heap.size, 3, none⟩ = some (.slice r3 z3 s3) ∧ w'.cell? ⟨wr.heap.size, 4, none⟩ = some (.slice r4 z4 s4) ∧ w'.cell? ⟨B, 2, none⟩ = some (.slice a2 T.cuts.length q2) ∧ Hid (Below wa.heap.size wa w')) := fun w' hb => by
        obtain ⟨x0, x1, x2, x3, x4⟩ := box_cells5 (sa.step hb)
        obtain ⟨_, _, y2, _, _⟩ := box_cells5 (sb.step hb)
        exact ⟨x0, x1, x2, x3, x4, y2, hb⟩
      have HSA : Hid (wr.heap.size + 1 ≤ wa.heap.size) := hsa
      clear sa sb ba hsa d0 d1 d2 d3 d4
      have S1 := KEEP.out wa.drew (Below.refl _ _).drew
      have T1 := KEEP.out wa (Below.refl _ _)
      go_region_held3 (fun w' => w'.cell? ⟨wr.heap.size, 0, none⟩ = some (.bool z0) ∧ w'.cell? ⟨wr.heap.size, 1, none⟩ = some (.slice r1 z1 s1) ∧ w'.cell? ⟨wr.heap.size, 2, none⟩ = some (.slice r2 z2 s2) ∧ w'.cell? ⟨wr.heap.size, 3, none⟩ = some (.slice r3 z3 s3) ∧ w'.cell? ⟨wr.heap.size, 4, none⟩ = some (.slice r4 z4 s4) ∧ w'.cell? ⟨B, 2, none⟩ = some (.slice a2 T.cuts.length q2) ∧ Hid (Below wa.heap.size wa w')) (assumption) (first
        | (go_at_call 97; refine (HM.out _ (Below.and BWA.out S1.2.2.2.2.2.2.out)).mono ?_; rintro e w5 ⟨v5, rfl, o5, b5⟩; have S2 := KEEP.out w5 (Below.and S1.2.2.2.2.2.2.out b5); have O5 : Hid (w5.ownsRow wa.heap.size 81 3 v5 MI.length (flatM MI)) := o5; clear b5 o5)
        | (go_at_call 67; refine (HT.out _ v5 (BWR.out.trans ((Below.and BWA.out S2.2.2.2.2.2.2.out).mono BWR.out.size)) (owns_mono O5.out (Nat.zero_le _))).mono ?_; rintro e w6 ⟨gf, lb, Dta, rfl, eg, gv, dlt, dloc, b6⟩; have S3 := KEEP.out w6 (Below.and S2.2.2.2.2.2.2.out b6); have GV : Hid _ := gv; have EG : Hid _ := eg; have DL : Hid _ := dlt; have DC : Hid _ := dloc; have B56 : Hid (Below w5.heap.size w5 w6) := b6; clear gv eg dlt dloc b6))
      have B6 : Hid (Below wr.heap.size wr w6) := Below.and BWA.out S3.2.2.2.2.2.2.out
      have L5 : Hid (∀ g, v5.ownBlock = some g → wr.heap.size ≤ g) := fun g hg => by
        have := (O5.out.lt g hg).1
        have := HSA.out
        omega
      have Z5 : Hid (wr.heap.size ≤ w5.heap.size) := Nat.le_trans (by have := HSA.out; omega) S2.2.2.2.2.2.2.out.size
      clear S1 T1 S2 S3
      go_wp2_with fail
      obtain ⟨j6, _, x6⟩ := hJ.kx JJ.out (Chg.of_below B6.out)
      have HJ6 : Hid (J (accT m T ab j ++ []) w6) := by rw [List.append_nil]; exact j6
      have X6 : Hid (∀ g, X w6 g ↔ X wr g) := x6
      have LR : Hid (∀ g, X wr g → g < wr.heap.size) := fun g hg => hJ.lt _ wr g JJ.out hg
      clear j6 x6
      refine (wpIn_wide (n := k)).1 (wpIn_range_cl (gf := gf) (lb := lb) rfl EG.out GV.out (Chg.refl _ _) DL.out (fun _ => rfl) (XM X W.heap.size wr) (IM X J (accT m T ab j) W.heap.size wr)
        (fun c s V => c = .ret ∧ IM X Jx (accT m T ab j) W.heap.size wr s V) (IM.cl hJ _ _ _) (fun c => (IM.cl hJx _ _ _).and_const _) ?hd ?h0
        (fun p a' V => ∃ Bp, V.heap[Bp]? = some (.cells #[.int .i64 p.1, .int .i64 p.2] 87 (0, 0)) ∧ a' = { tmps := #[.func (.yield l) #[] #[], .pointer (some ⟨B, 0, none⟩), .pointer (some ⟨B + 1, 0, none⟩), .pointer (some ⟨W.heap.size, 0, none⟩), v4, .int .i64 j, .pointer (some ⟨wr.heap.size, 0, none⟩), .pointer (some ⟨Bp, 0, none⟩), .pointer (some ⟨B, 4, none⟩), .slice a4 T.buf.length q4, .slice av ab.length cv, .slice (some ⟨W.heap.size + 1, 0, none⟩) 2 2, v4, .pointer (some ⟨B, 3, none⟩), .slice (some ⟨b3, off3, none⟩) T.kids.length q3, .int .i64 T.kids.length, .int .i64 j, .bool true, .int .i64 j, .pointer (some ⟨b3, off3 + j * 5, none⟩), .agg #[.bool z0, .slice r1 z1 s1, .slice r2 z2 s2, .slice r3 z3 s3, .slice r4 z4 s4], .agg #[.bool z0, .slice r1 z1 s1, .slice r2 z2 s2, .slice r3 z3 s3, .slice r4 z4 s4], .pointer (some ⟨B, 2, none⟩), .slice a2 T.cuts.length q2, .int .i64 j, v4, v5, .func (.func gf) #[] lb, .agg #[.int .i64 p.1, .int .i64 p.2], undef, undef, undef, undef, u33], defers := [] }) ?hax ?assign ?body ?done ?stop)
      case hd =>
        intro g hg hx
        rcases DC.out g hg with h | h | h
        · rcases hx with hx | hx
          · have hx' := (X6.out g).1 hx
            rcases KK.out.sub g hx' with h' | h'
            · exact hD g (.inl h) h'
            · have := bW.out.size; omega
          · have := hx.1; have := bW.out.size; omega
        · have h5 := L5.out g h
          rcases hx with hx | hx
          · have := LR.out g ((X6.out g).1 hx); omega
          · have := hx.2.1; omega
        · have h5 := Z5.out
          rcases hx with hx | hx
          · have := LR.out g ((X6.out g).1 hx); omega
          · have := hx.2.1; omega
      case h0 => exact ⟨HJ6.out, fun g hg => B6.out.block g hg.2.1, fun g hg => .inl ((X6.out g).1 hg), B6.out.size⟩
      case hax =>
        rintro p a' V l' o o' ⟨Bp, h1, h2⟩ h3 h4
        refine ⟨Bp, ?_, h2⟩
        rw [World.putObj_heap_other (fun e => ?_)]
        · exact h1
        · subst e
          rw [h1] at h3
          cases h3
          cases h4
      case assign =>
        intro lp pre p V K hi hpre hK
        have al := (IM.cl hJ (accT m T ab j) W.heap.size wr).alloc hi (.cells #[.int .i64 p.1, .int .i64 p.2] 87)
        have AL : Hid _ := al
        have HN : Hid _ := heap_alloc_new V (.cells #[.int .i64 p.1, .int .i64 p.2] 87)
        have HKK : Hid _ := hK
        clear al hK hi hpre hY hD
        simp only [encP]
        gi_wp2
        exact HKK.out _ _ AL.out.1 AL.out.2 ⟨V.heap.size, HN.out, rfl⟩
      case body =>
        rintro lp pre p a' V hi ⟨Bp, hBp, rfl⟩ hpre
        have YB : Boxed V W.heap.size 125 (.func (.yield l) #[] #[]) := (hi.2.1 _ ⟨Nat.le_refl _, YY.out.1.lt, YY.out.2⟩).trans YY.out.1
        have y0 := YB.cell
        have e0 : V.cell? ⟨Bp, 0, none⟩ = some (.int .i64 p.1) := by rw [cell_of_row V Bp 0 _ 87 (0, 0) hBp]; rfl
        have e1 : V.cell? ⟨Bp, 1, none⟩ = some (.int .i64 p.2) := by rw [cell_of_row V Bp 1 _ 87 (0, 0) hBp]; rfl
        have PR : accT m T ab j ++ (pre ++ [p]) <+: toldF (m + 1) T ab := pre_app PF.out hpre
        obtain ⟨fn, tmps, assign, body, hy, hR⟩ := yieldAt_any (k - 1 - 1 - 1) (hY (accT m T ab j ++ pre) p V hi.1 (by rw [List.append_assoc]; exact PR))
        dsimp only [encP] at hy
        have HI : Hid (IM X J (accT m T ab j) W.heap.size wr pre V) := hi
        clear hi hpre hY hD YB hBp PR H hf hd
        dsimp only
        gi_wp2
        refine ⟨fun h => (by cases h), ?_⟩
        refine RoundIn.mono (show RoundIn (Fence.wide.inRound lp) _ _ _ _ _ _ _ _ _ from hR) ?_
        rintro e W3 (⟨rfl, hJ3, hk3⟩ | ⟨rfl, hJx3, hk3⟩)
        · have FIN : Hid (IM X J (accT m T ab j) W.heap.size wr (pre ++ [p]) W3 ∧ Kx (XM X W.heap.size wr) V W3) := ⟨HI.out.next hk3 (by rw [← List.append_assoc]; exact hJ3), hk3.xm⟩
          clear hJ3 hk3 hR hy
          gi_wp2
          exact FIN.out
        · have FIN : Hid (IM X Jx (accT m T ab j) W.heap.size wr (pre ++ [p]) W3 ∧ Kx (XM X W.heap.size wr) V W3) := ⟨HI.out.next hk3 (by rw [← List.append_assoc]; exact hJx3), hk3.xm⟩
          clear hJx3 hk3 hR hy
          gi_wp2
          exact ⟨⟨rfl, FIN.out.1⟩, FIN.out.2⟩
      case done =>
        rintro D W2 hD2 hi hkx hK hnx
        have KR : Kx X wr W2 := hi.back B6.out X6.out hkx
        have ND : Hid ((∀ d ∈ D :: ds, W.heap.size ≤ d ∧ W2.heap[d]? = some (.deferred (some [])) ∧ ¬ X W2 d) ∧ (D :: ds).Nodup) := by
          refine ⟨fun d hd' => ?_, List.nodup_cons.2 ⟨fun hm => ?_, DD.out.2⟩⟩
          · rcases List.mem_cons.1 hd' with rfl | hm
            · exact ⟨Nat.le_trans (Nat.le_trans hWr B6.out.size) hD2, hK, fun hx => hnx (.inl hx)⟩
            · obtain ⟨q1, q2, q3⟩ := DD.out.1 d hm
              have hdl := (Array.getElem?_eq_some_iff.1 q2).1
              exact ⟨q1, (KR.chg.block d hdl q3).trans q2, fun hx => (KR.sub d hx).elim q3 (fun h => by omega)⟩
          · have := (Array.getElem?_eq_some_iff.1 (DD.out.1 D hm).2.1).1
            have := B6.out.size
            omega
        have NX : Hid (J (accT m T ab (j + 1)) W2 ∧ Kx X W W2) := ⟨by rw [AP.out]; exact hi.1, KK.out.trans KR⟩
        have NY : Hid (Boxed W2 W.heap.size 125 (.func (.yield l) #[] #[]) ∧ ¬ X W2 W.heap.size) := ⟨(KR.chg.block _ YY.out.1.lt YY.out.2).trans YY.out.1, fun hx => (KR.sub _ hx).elim YY.out.2 (fun h => by have := YY.out.1.lt; omega)⟩
        have NO : Hid (W2.ownsRow (W.heap.size + 2) 81 3 v4 (T.buf ++ ab).length (flatM (T.buf ++ ab)) ∧ ∀ g, v4.ownBlock = some g → ¬ X W2 g) := ⟨owns_chg OO.out.1 KR.chg OO.out.2, fun g hg hx => (KR.sub g hx).elim (OO.out.2 g hg) (fun h => by have := (OO.out.1.lt g hg).2; omega)⟩
        clear hi hkx hK hnx KR hY hD H hf hd
        dsimp only
        go_wp2
        refine ⟨⟨j + 1, D :: ds, _, _, _, _, _, _, _, _, _, _, _, _, _, _, _, ⟨by omega, by go_num, NX.out.1, NX.out.2, NY, NO, ND⟩, rfl⟩, ?_⟩
        simp [intOf]
        omega
      case stop =>
        rintro D c pre W2 hD2 hpre ⟨rfl, hi⟩ hkx hK hnx
        have KR : Kx X wr W2 := hi.back B6.out X6.out hkx
        have ND : Hid ((∀ d ∈ D :: ds, W.heap.size ≤ d ∧ W2.heap[d]? = some (.deferred (some [])) ∧ ¬ X W2 d) ∧ (D :: ds).Nodup) := by
          refine ⟨fun d hd' => ?_, List.nodup_cons.2 ⟨fun hm => ?_, DD.out.2⟩⟩
          · rcases List.mem_cons.1 hd' with rfl | hm
            · exact ⟨Nat.le_trans (Nat.le_trans hWr B6.out.size) hD2, hK, fun hx => hnx (.inl hx)⟩
            · obtain ⟨q1, q2, q3⟩ := DD.out.1 d hm
              have hdl := (Array.getElem?_eq_some_iff.1 q2).1
              exact ⟨q1, (KR.chg.block d hdl q3).trans q2, fun hx => (KR.sub d hx).elim q3 (fun h => by omega)⟩
          · have := (Array.getElem?_eq_some_iff.1 (DD.out.1 D hm).2.1).1
            have := B6.out.size
            omega
        have NX : Hid (Jx (accT m T ab j ++ pre) W2 ∧ Kx X W W2 ∧ accT m T ab j ++ pre <+: toldF (m + 1) T ab) := ⟨hi.1, KK.out.trans KR, pre_app PF.out hpre⟩
        clear hi hkx hK hnx KR hY hD H hf hd hpre
        refine wpIn_wide.2 ?_
        dsimp only
        go_wp2
        show LeavesInM Fence.wide k Try.prog Try.f95 _ _ ((D :: ds).map mkD) .returning W2
        refine leaves_marks (D :: ds) W2 (fun d hd => (ND.out.1 d hd).2.1) ND.out.2 (fun W' hc => ?_)
        obtain ⟨jx', xx'⟩ := hJx.abide _ W2 W' NX.out.1 (hc.mono fun g _ hm => (ND.out.1 g hm).2.2)
        exact ⟨_, results_none rfl _ _ _, ⟨_, rfl⟩, .inr ⟨_, NX.out.2.2, jx'⟩, NX.out.2.1.marks hc (fun d hd => (ND.out.1 d hd).1) xx'⟩
    · have hjj : j = T.kids.length := by omega
      have NX : Hid (J (toldF (m + 1) T ab) wr ∧ Kx X W wr) := ⟨by have := JJ.out; rw [hjj, accT_full ab hl] at this; exact this, KK.out⟩
      clear hY hD H hf hd
      go_wp2
      show LeavesInM Fence.wide k Try.prog Try.f95 _ _ (ds.map mkD) .returning wr
      refine leaves_marks ds wr (fun d hd => (DD.out.1 d hd).2.1) DD.out.2 (fun W' hc => ?_)
      obtain ⟨j', xx'⟩ := hJ.abide _ wr W' NX.out.1 (hc.mono fun g _ hm => (DD.out.1 g hm).2.2)
      exact ⟨_, results_none rfl _ _ _, ⟨_, rfl⟩, .inl j', NX.out.2.marks hc (fun d hd => (DD.out.1 d hd).1) xx'⟩

set_option maxHeartbeats 1000000 in
theorem values_any (v : Value) (w : World) (a : Option Addr) (n c : Nat) (hv : v = .slice a n c) :
    Calls Try.prog 94 #[v] w fun e w' => e = .returned (.func (.func 119) #[] #[.pointer (some ⟨w.heap.size, 0, none⟩)]) ∧ w' = w.alloc (.cells #[v] 24) := by
  subst hv
  have hmf : ∀ (fn : Fn) (first cap : Array Value) (w : World), (Instr.makeFunc fn first cap).run Try.prog w = .ok (.func fn first cap) w := fun _ _ _ _ => rfl
  go_enter Try.func94, Try.ntmps94
  go_wp2
  go_ret
  exact ⟨rfl, rfl⟩

end Go.Proofs.Ytmpiijphpnjlnaa

namespace Go.Proofs.Ytmpiijphpnjlnaa
open Go.RowKit Go.Shelf

set_option maxRecDepth 100000 in
set_option maxHeartbeats 4000000 in
theorem told_of {m : Nat} (H : ToldIs m) : ToldIs (m + 1) := by
  intro n x T lo hi w0 w va ab ht bw hva hd hab
  cases n with
  | zero => exact ht.elim
  | succ n =>
  have TT : Hid (TreeAt (n + 1) w0 x T) := ht
  obtain ⟨hlf, hpr, _, _, _⟩ := ht.parts
  obtain ⟨a1, a2, a3, a4, q1, q2, q3, q4, hx⟩ := ht.shape
  subst hx
  simp only at hpr
  obtain ⟨av, cv, rfl⟩ := owns_val hva
  have hmf : ∀ (fn : Fn) (first cap : Array Value) (w : World), (Instr.makeFunc fn first cap).run Try.prog w = .ok (.func fn first cap) w := fun _ _ _ _ => rfl
  have BW : Hid (Below w0.heap.size w0 w) := bw
  have B0 : Hid (Below w.heap.size w ((w.alloc (.cells #[.bool T.leaf, .slice a1 T.pairs.length q1, .slice a2 T.cuts.length q2, .slice a3 T.kids.length q3, .slice a4 T.buf.length q4] 29)).alloc (.cells #[.slice av ab.length cv] 27))) := ((Below.refl _ _).alloc (Nat.le_refl _) _).alloc (by simp) _
  have S0 : Hid (OneAt ((w.alloc (.cells #[.bool T.leaf, .slice a1 T.pairs.length q1, .slice a2 T.cuts.length q2, .slice a3 T.kids.length q3, .slice a4 T.buf.length q4] 29)).alloc (.cells #[.slice av ab.length cv] 27)) w.heap.size #[.bool T.leaf, .slice a1 T.pairs.length q1, .slice a2 T.cuts.length q2, .slice a3 T.kids.length q3, .slice a4 T.buf.length q4]) :=
    (OneAt.start w _).step ((Below.refl _ _).alloc (Nat.le_refl _) _)
  have S1 : Hid (Boxed ((w.alloc (.cells #[.bool T.leaf, .slice a1 T.pairs.length q1, .slice a2 T.cuts.length q2, .slice a3 T.kids.length q3, .slice a4 T.buf.length q4] 29)).alloc (.cells #[.slice av ab.length cv] 27)) (w.heap.size + 1) 27 (.slice av ab.length cv)) := by
    have := Boxed.new (w.alloc (.cells #[.bool T.leaf, .slice a1 T.pairs.length q1, .slice a2 T.cuts.length q2, .slice a3 T.kids.length q3, .slice a4 T.buf.length q4] 29)) 27 (.slice av ab.length cv)
    rw [World.size_alloc] at this
    exact this
  have OA : Hid (w.ownsRow 0 81 3 (.slice av ab.length cv) ab.length (flatM ab)) := hva
  have RP : Hid (Row w0 (.slice a1 T.pairs.length q1) T.pairs.length (flatP T.pairs)) := hpr
  clear hpr hva ht bw
  cases hl : T.leaf
  · have HG : Hid (Gives Try.prog 95 #[.pointer (some ⟨w.heap.size, 0, none⟩), .pointer (some ⟨w.heap.size + 1, 0, none⟩)] encP (fun g => g < w0.heap.size ∨ (Value.slice av ab.length cv).ownBlock = some g ∨ g = w.heap.size ∨ g = w.heap.size + 1) (toldF (m + 1) T ab) ((w.alloc (.cells #[.bool T.leaf, .slice a1 T.pairs.length q1, .slice a2 T.cuts.length q2, .slice a3 T.kids.length q3, .slice a4 T.buf.length q4] 29)).alloc (.cells #[.slice av ab.length cv] 27))) :=
      told1_in H n _ T lo hi w0 _ w.heap.size (.slice av ab.length cv) ab TT.out (BW.out.trans (B0.out.mono BW.out.size)) (owns_below OA.out B0.out) hd hl hab S0.out S1.out
    rw [hl] at B0 S0 S1 HG
    have EN : Hid (∀ args u, (callFunc 95 args).run Try.prog u = .ok (.enter 95 args) u) := enters_of Try.func95 (by kernel_rfl) rfl
    have DL : Hid (∀ g, (g < w0.heap.size ∨ (Value.slice av ab.length cv).ownBlock = some g ∨ g = w.heap.size ∨ g = w.heap.size + 1) → g < ((w.alloc (.cells #[.bool false, .slice a1 T.pairs.length q1, .slice a2 T.cuts.length q2, .slice a3 T.kids.length q3, .slice a4 T.buf.length q4] 29)).alloc (.cells #[.slice av ab.length cv] 27)).heap.size) := fun g hg => by
      have h1 := BW.out.size
      simp only [World.size_alloc]
      rcases hg with h | h | h | h
      · omega
      · have := (OA.out.lt g h).2; omega
      · omega
      · omega
    have DC : Hid (∀ g, (g < w0.heap.size ∨ (Value.slice av ab.length cv).ownBlock = some g ∨ g = w.heap.size ∨ g = w.heap.size + 1) → g < w0.heap.size ∨ (Value.slice av ab.length cv).ownBlock = some g ∨ w.heap.size ≤ g) := fun g hg => by
      rcases hg with h | h | h | h
      · exact .inl h
      · exact .inr (.inl h)
      · exact .inr (.inr (by omega))
      · exact .inr (.inr (by omega))
    generalize T.pairs.length = n1 at *
    generalize T.cuts.length = n2 at *
    generalize T.kids.length = n3 at *
    generalize T.buf.length = n4 at *
    show Calls Try.prog 67 #[.agg #[.bool false, .slice a1 n1 q1, .slice a2 n2 q2, .slice a3 n3 q3, .slice a4 n4 q4], .slice av ab.length cv] w _
    clear hd TT H
    go_enter Try.func67, Try.ntmps67
    go_wp2
    go_ret
    first
      | exact ⟨95, _, rfl, EN.out, _, HG.out, DL.out, DC.out, B0.out⟩
      | exact ⟨95, _, _, rfl, EN.out, HG.out, DL.out, DC.out, B0.out⟩
  · have TE : Hid (toldF (m + 1) T ab = allL T.pairs ab) := by
      show _ = _
      rw [toldF, if_pos hl]
    have hp4 := (leafOk_parts (depthF_leaf_ok hd hl)).2.1
    rw [TE.out]
    rw [hl] at B0 S0 S1
    obtain ⟨k0, k1, k2, k3, k4⟩ := box_cells5 S0.out
    have j0 := S1.out.cell
    have RP1 : Hid _ := (RP.out.below BW.out).below B0.out
    have RA1 : Hid _ := Row.of_owns (owns_below OA.out B0.out)
    have EN : Hid (∀ args u, (callFunc 119 args).run Try.prog u = .ok (.enter 119 args) u) := enters_of Try.func119 (by kernel_rfl) rfl
    have hlb := allL_length T.pairs ab
    generalize T.cuts.length = n2 at *
    generalize T.kids.length = n3 at *
    generalize T.buf.length = n4 at *
    show Calls Try.prog 67 #[.agg #[.bool true, .slice a1 T.pairs.length q1, .slice a2 n2 q2, .slice a3 n3 q3, .slice a4 n4 q4], .slice av ab.length cv] w _
    clear hd TT H
    go_enter Try.func67, Try.ntmps67
    go_wp2_with fail
    refine Calls.mono (implMapAll_any _ _ T.pairs ab _ RP1.out RA1.out (by omega)) ?_
    rintro e w1 ⟨v1, rfl, o1, b1⟩
    have B1 : Hid (Below w.heap.size w w1) := Below.and B0.out b1
    have O1 : Hid (w1.ownsRow w.heap.size 87 2 v1 (allL T.pairs ab).length (flatP (allL T.pairs ab))) := owns_mono o1 (Nat.le_trans (by simp; omega) (Nat.le_refl _))
    obtain ⟨vv, cc, rfl⟩ := owns_val o1
    clear o1 b1 k0 k1 k2 k3 k4 j0
    go_wp2_with fail
    refine Calls.mono (values_any (.slice vv (allL T.pairs ab).length cc) w1 vv _ cc rfl) ?_
    rintro e w2 ⟨rfl, hw2⟩
    subst hw2
    have HG : Hid (Gives Try.prog 119 #[.pointer (some ⟨w1.heap.size, 0, none⟩)] encP (fun g => g = w1.heap.size ∨ (Value.slice vv (allL T.pairs ab).length cc).ownBlock = some g) (allL T.pairs ab) (w1.alloc (.cells #[(Value.slice vv (allL T.pairs ab).length cc)] 24))) :=
      values1_in w1.heap.size (Value.slice vv (allL T.pairs ab).length cc) (allL T.pairs ab) _ (Boxed.new w1 24 (Value.slice vv (allL T.pairs ab).length cc)) ((owns_mono O1.out (Nat.zero_le _)).alloc _) (by omega)
    have FB : Hid (Below w.heap.size w (w1.alloc (.cells #[(Value.slice vv (allL T.pairs ab).length cc)] 24))) := B1.out.alloc B1.out.size _
    have DL : Hid (∀ g, (g = w1.heap.size ∨ (Value.slice vv (allL T.pairs ab).length cc).ownBlock = some g) → g < (w1.alloc (.cells #[(Value.slice vv (allL T.pairs ab).length cc)] 24)).heap.size) := fun g hg => by
      rw [World.size_alloc]
      rcases hg with h | h
      · omega
      · have := (O1.out.lt g h).2; omega
    have DC : Hid (∀ g, (g = w1.heap.size ∨ (Value.slice vv (allL T.pairs ab).length cc).ownBlock = some g) → g < w0.heap.size ∨ (Value.slice av ab.length cv).ownBlock = some g ∨ w.heap.size ≤ g) := fun g hg => by
      rcases hg with h | h
      · exact .inr (.inr (by rw [h]; exact B1.out.size))
      · exact .inr (.inr (O1.out.lt g h).1)
    go_wp2
    go_ret
    first
      | exact ⟨119, _, rfl, EN.out, _, HG.out, DL.out, DC.out, FB.out⟩
      | exact ⟨119, _, _, rfl, EN.out, HG.out, DL.out, DC.out, FB.out⟩

theorem told_0 : ToldIs 0 := fun _ _ _ _ _ _ _ _ _ _ _ _ h => absurd rfl h
theorem told_any : ∀ m, ToldIs m
  | 0 => told_0
  | m + 1 => told_of (told_any m)

end Go.Proofs.Ytmpiijphpnjlnaa

namespace Go.Proofs.Ytmpiijphpnjlnaa
open Go.RowKit Go.Shelf

attribute [local go_sem] Oper.semAt_some

theorem appIn_oneL {F : Fence} {nn : Nat} {P : Program} {ops : Array Oper} {rest : List Oper} {o : Oper} {a : Act} {Q : Exit → Act → World → Prop} (W : World) (hgd : o.guard = none) (s x : Operand) (t : TypeId)
    (ho : o.op = .call { callee := .builtin .append, args := #[s, x], argTypes := #[t, t] })
    (base : Nat) (e : TypeId) (i : TypeInfo) (z : Value) (size bytes : Nat) (ht : P.underlying t = some (.slice e)) (hi : P.info? e = some i) (hz : i.zero = some z)
    (hsize : i.size = size) (hby : i.bytes = bytes) (hzs : z.cells.size = size) (hsz : 0 < size)
    (v : Value) (n : Nat) (xs : List Value) (hs : a.eval s = v) (hown : W.ownsRow base e size v n xs)
    (news : List Value) (hx : a.eval x = .slice (some ⟨W.heap.size, 0, none⟩) 1 1) (hl : news.length = size) (h1 : ∀ u ∈ news, u.oneCell' = true)
    (h63 : n + 1 ≤ maxLen) (hbytes : (n + 1) * bytes ≤ 140737488355328) (hbase : base ≤ W.heap.size)
    (h : ∀ v' w', w'.ownsRow base e size v' (n + 1) (xs ++ news) → Chg (fun g => v.ownBlock = some g) W w' → (∀ g, v'.ownBlock = some g → v.ownBlock = some g ∨ g = W.heap.size + 1) → wpListIn F nn P ops Q rest (a.put o.dst v') w') :
    wpListIn F nn P ops Q (o :: rest) a (W.alloc (.cells news.toArray e)) := by
  refine wpListIn_plain hgd fun K hK' => ?_
  obtain ⟨v', w', hrun, r1, r2, _, r4⟩ := run_append_own_at (P := P) (W.alloc (.cells news.toArray e)) base t o.type e i z size bytes ht hi hz hsize hby hzs hsz v n xs (hown.alloc _) ⟨W.heap.size, 0, none⟩ 1 1 news (by omega) (fun j u hj => by
    rw [Go.WideShapes.add_plain, Nat.zero_add, cell_of_cells (heap_alloc_new W _)]
    simpa using hj) h1 h63 hbytes (by simp; omega)
  unfold Oper.wpIn
  refine ⟨?_, ?_⟩
  · simp [Oper.about, ho, resolve, Target.leads, Sem.run_pure]
  · rw [Oper.semAt_plain F _ _ (by rw [ho]; intro c hc'; cases hc')]
    simp [execOp, ho, resolve, invoke, builtin, hs, hx, hrun, Result.andThen]
    refine hK' _ _ (h v' w' r1 (((Chg.refl _ _).alloc _).trans (chg_of_grown r2) (fun _ _ e => e)) fun g hg => ?_)
    rcases r4 with r4 | r4
    · exact .inl (by rw [← r4]; exact hg)
    · right
      rw [hg] at r4
      simpa using r4

/-- the caller's blocks: a variable's box and the row that it holds -/
def XB (B : Nat) (W : World) (g : Nat) : Prop := g = B ∨ ∃ v, W.cell? ⟨B, 0, none⟩ = some v ∧ v.ownBlock = some g
/-- the box holds a list of pairs -/
def IB (B base : Nat) (f : PL → PL) (s : PL) (W : World) : Prop := ∃ v, Boxed W B 24 v ∧ W.ownsRow base 87 2 v (f s).length (flatP (f s))
theorem XB.of {B : Nat} {W : World} {v : Value} (h : Boxed W B 24 v) (g : Nat) : XB B W g ↔ g = B ∨ v.ownBlock = some g := by
  unfold XB
  rw [h.cell]
  constructor
  · rintro (h1 | ⟨v', h1, h2⟩)
    · exact .inl h1
    · cases h1; exact .inr h2
  · rintro (h1 | h1)
    · exact .inl h1
    · exact .inr ⟨v, rfl, h1⟩
theorem IB.cl (B base : Nat) (f : PL → PL) : Cl (XB B) (IB B base f) := by
  refine ⟨fun s W g ⟨v, hv, ho⟩ hx => ?_, fun s W W' ⟨v, hv, ho⟩ hc => ?_⟩
  · rcases (XB.of hv g).1 hx with rfl | h
    · exact hv.lt
    · exact (ho.lt g h).2
  · have hB : Boxed W' B 24 v := (hc.block B hv.lt (fun h => h ((XB.of hv B).2 (.inl rfl)))).trans hv
    refine ⟨⟨v, hB, owns_chg ho hc (fun g hg h => h ((XB.of hv g).2 (.inr hg)))⟩, fun g => by rw [XB.of hB, XB.of hv]⟩
/-- a round that collects -/
theorem IB.put {B base : Nat} {f : PL → PL} {s s' : PL} {V w5 : World} {v v5 : Value} {p : Int × Int} (hv : Boxed V B 24 v) (ho : V.ownsRow base 87 2 v (f s).length (flatP (f s))) (hf : f s' = f s ++ [p])
    (o5 : w5.ownsRow base 87 2 v5 ((f s).length + 1) (flatP (f s) ++ [.int .i64 p.1, .int .i64 p.2])) (c5 : Chg (fun g => v.ownBlock = some g) V w5) (l5 : ∀ g, v5.ownBlock = some g → v.ownBlock = some g ∨ g = V.heap.size + 1) :
    Boxed w5 B 24 v ∧ IB B base f s' (w5.setCell ⟨B, 0, none⟩ v5) ∧ Kx (XB B) V (w5.setCell ⟨B, 0, none⟩ v5) := by
  have hne : ¬ v.ownBlock = some B := fun e => hv.not_row (by decide) ho e.symm
  have hb5 : Boxed w5 B 24 v := (c5.block B hv.lt hne).trans hv
  have hb6 : Boxed (w5.setCell ⟨B, 0, none⟩ v5) B 24 v5 := hb5.set v5
  have hc6 : Chg (fun g => g = B) w5 (w5.setCell ⟨B, 0, none⟩ v5) := (Chg.refl (fun g => g = B) w5).setAt B 0 rfl v5
  have hne5 : ¬ v5.ownBlock = some B := fun e => hb5.not_row (by decide) o5 e.symm
  refine ⟨hb5, ⟨v5, hb6, ?_⟩, ?_, fun g hg => ?_⟩
  · rw [hf, List.length_append, flatP_append]
    exact owns_chg o5 hc6 (fun g hg e => hne5 (e ▸ hg))
  · exact (c5.mono fun g _ hg => (XB.of hv g).2 (.inr hg)).trans hc6 fun g _ e => (XB.of hv g).2 (.inl e)
  · rcases (XB.of hb6 g).1 hg with h | h
    · exact .inl ((XB.of hv g).2 (.inl h))
    · rcases l5 g h with h | h
      · exact .inl ((XB.of hv g).2 (.inr h))
      · exact .inr (by omega)

set_option maxRecDepth 100000 in
set_option maxHeartbeats 2000000 in
theorem appendSeq_any (gf : Nat) (lb : Array Value) (Dta : Nat → Prop) (L : PL) (w : World) (eg : ∀ args u, (callFunc gf args).run Try.prog u = .ok (.enter gf args) u) (hg : Gives Try.prog gf lb encP Dta L w) (hdl : ∀ g, Dta g → g < w.heap.size) (hl : L.length ≤ 4194304) :
    Calls Try.prog 93 #[.slice none 0 0, .func (.func gf) #[] lb] w fun e w' => ∃ v', e = .returned v' ∧ w'.ownsRow w.heap.size 87 2 v' L.length (flatP L) ∧ Below w.heap.size w w' := by
  obtain ⟨i0, hi0, hz0, hz1, hz2⟩ := info_parts Try.info87
  refine (callsIn_wide (n := 5)).1 ?_
  refine callsIn_of_wp_marks Try.func93 rfl trivial ?_ rfl
  simp only [Try.ntmps93, List.size_toArray, List.length_cons, List.length_nil, Nat.reduceAdd, Nat.reduceSub, Array.replicate_succ, Array.replicate_zero, List.push_toArray, List.append_toArray, List.nil_append, List.cons_append]
  have GV : Hid (Gives Try.prog gf lb encP Dta L w) := hg
  have EG : Hid _ := eg
  have DL : Hid _ := hdl
  clear hg eg hdl
  gi_wp2_with fail
  have I0 : Hid (IB w.heap.size w.heap.size id [] (w.alloc (.cells #[.slice none 0 0] 24))) := ⟨.slice none 0 0, Boxed.new w 24 _, World.ownsRow_nil _ _ _ _⟩
  refine wpIn_range_cl (gf := gf) (lb := lb) rfl EG.out GV.out ((Chg.refl _ _).alloc _) (fun g h => by have := DL.out g h; simp; omega) (fun _ => rfl) (XB w.heap.size) (IB w.heap.size w.heap.size id) (fun _ _ _ => False) (IB.cl _ _ _)
    (fun _ => ⟨fun _ _ _ h => h.elim, fun _ _ _ h => h.elim⟩) ?hd I0.out
    (fun p a' V => ∃ Bp, V.heap[Bp]? = some (.cells #[.int .i64 p.1, .int .i64 p.2] 87 (0, 0)) ∧ a' = { tmps := #[.slice none 0 0, .func (.func gf) #[] lb, .pointer (some ⟨w.heap.size, 0, none⟩), undef, .slice none 0 0, .pointer (some ⟨Bp, 0, none⟩), .func (.func gf) #[] lb, .agg #[.int .i64 p.1, .int .i64 p.2], undef, undef, undef, undef, undef], defers := [] }) ?hax ?assign ?body ?done ?stop
  case hd =>
    intro g hg hx
    have h1 := DL.out g hg
    rcases (XB.of (Boxed.new w 24 _) g).1 hx with h | h
    · omega
    · cases h
  case hax =>
    rintro p a' V l' o o' ⟨Bp, h1, h2⟩ h3 h4
    refine ⟨Bp, ?_, h2⟩
    rw [World.putObj_heap_other (fun e => ?_)]
    · exact h1
    · subst e
      rw [h1] at h3
      cases h3
      cases h4
  case assign =>
    intro lp pre p V K hi hpre hK
    have AL : Hid _ := (IB.cl w.heap.size w.heap.size id).alloc hi (.cells #[.int .i64 p.1, .int .i64 p.2] 87)
    have HN : Hid _ := heap_alloc_new V (.cells #[.int .i64 p.1, .int .i64 p.2] 87)
    have HKK : Hid _ := hK
    clear hK hi hpre
    simp only [encP]
    gi_wp2
    exact HKK.out _ _ AL.out.1 AL.out.2 ⟨V.heap.size, HN.out, rfl⟩
  case body =>
    rintro lp pre p a' V ⟨v, hv, ho⟩ ⟨Bp, hBp, rfl⟩ hpre
    have e0 : V.cell? ⟨Bp, 0, none⟩ = some (.int .i64 p.1) := by rw [cell_of_row V Bp 0 _ 87 (0, 0) hBp]; rfl
    have e1 : V.cell? ⟨Bp, 1, none⟩ = some (.int .i64 p.2) := by rw [cell_of_row V Bp 1 _ 87 (0, 0) hBp]; rfl
    have c0 := hv.cell
    have HV : Hid (Boxed V w.heap.size 24 v) := hv
    have HO : Hid (V.ownsRow w.heap.size 87 2 v pre.length (flatP pre)) := ho
    have hpl : pre.length ≤ 4194304 := by
      have := hpre.length_le
      simp at this
      omega
    have HR : Hid _ := room_of (n := pre.length) (bytes := 16) (by omega) (by decide)
    have H1 : Hid _ := two_one p.1 p.2
    have hbs : w.heap.size ≤ V.heap.size := Nat.le_of_lt hv.lt
    clear hv ho hBp hpre
    try dsimp only
    gi_wp2_with (gi_at_builtin; refine appIn_oneL V rfl _ _ 24 rfl w.heap.size 87 i0 _ 2 16 Try.underlying24 hi0 hz0 hz1 hz2 rfl (by decide) v _ _ rfl HO.out [.int .i64 p.1, .int .i64 p.2] rfl rfl H1.out HR.out.1 HR.out.2 hbs ?_)
    intro v5 w5 o5 c5 l5
    obtain ⟨g5, q5, rfl⟩ := ownsRow_succ o5
    obtain ⟨b5, i5, k5⟩ := IB.put (f := id) (s := pre) (s' := pre ++ [p]) (p := p) HV.out HO.out rfl o5 c5 l5
    have FIN : Hid _ := And.intro i5 k5
    have c1 := b5.cell
    have f1 := b5.frozen
    clear o5 c5 l5 b5 i5 k5 e0 e1 c0
    gi_wp2
    exact FIN.out
  case done =>
    rintro D W2 hD2 ⟨v, hv, ho⟩ hkx hK hnx
    have c0 := hv.cell
    have HV : Hid (Boxed W2 w.heap.size 24 v) := hv
    have HO : Hid (W2.ownsRow w.heap.size 87 2 v L.length (flatP L)) := ho
    have HK : Hid _ := hkx
    have HD : Hid _ := hK
    have NX : Hid _ := hnx
    clear hv ho hkx hK hnx
    try dsimp only
    gi_wp2
    show LeavesInM Fence.wide 5 Try.prog Try.f93 _ _ ([D].map mkD) .returning W2
    refine leaves_marks [D] W2 (fun d hd => by obtain rfl := List.mem_singleton.1 hd; exact HD.out) (by simp) (fun W' hc => ?_)
    have hO' := owns_chg HO.out hc (fun g hg hm => NX.out (by obtain rfl := List.mem_singleton.1 hm; exact (XB.of HV.out _).2 (.inr hg)))
    have hB2 : Below w.heap.size w W2 := below_chg ((Below.refl _ _).alloc (Nat.le_refl _) _) HK.out.chg (by simp) (fun g hg hx => by
      rcases (XB.of (Boxed.new w 24 _) g).1 hx with h | h
      · omega
      · cases h)
    have hB3 : Below w.heap.size w W' := below_chg hB2 hc hB2.size (fun g hg hm => by
      obtain rfl := List.mem_singleton.1 hm
      simp at hD2
      omega)
    exact ⟨v, by simp [results, Try.results93, go_sem], v, rfl, hO', hB3⟩
  case stop =>
    rintro D c pre W2 hD2 hpre h
    exact h.elim

set_option maxHeartbeats 1000000 in
theorem collect_any (gf : Nat) (lb : Array Value) (Dta : Nat → Prop) (L : PL) (w : World) (eg : ∀ args u, (callFunc gf args).run Try.prog u = .ok (.enter gf args) u) (hg : Gives Try.prog gf lb encP Dta L w) (hdl : ∀ g, Dta g → g < w.heap.size) (hl : L.length ≤ 4194304) :
    Calls Try.prog 66 #[.func (.func gf) #[] lb] w fun e w' => ∃ v', e = .returned v' ∧ w'.ownsRow w.heap.size 87 2 v' L.length (flatP L) ∧ Below w.heap.size w w' := by
  have HA : Hid _ := appendSeq_any gf lb Dta L w eg hg hdl hl
  clear eg hg hdl
  go_enter Try.func66, Try.ntmps66
  go_wp2_with fail
  refine Calls.mono HA.out ?_
  rintro e w1 ⟨v1, rfl, o1, b1⟩
  have FIN : Hid _ := And.intro o1 b1
  clear o1 b1
  go_wp2
  go_ret
  exact ⟨_, rfl, FIN.out.1, FIN.out.2⟩

set_option maxHeartbeats 2000000 in
theorem implTreeMap_any (n : Nat) (x : TV) (T : Tr) (w : World) (ht : TreeAt n w x T) :
    Calls Try.prog 29 #[x.val] w fun e w' => ∃ v', e = .returned v' ∧ w'.ownsRow w.heap.size 87 2 v' (mapT T).length (flatP (mapT T)) ∧ Below w.heap.size w w' := by
  have TT : Hid (TreeAt n w x T) := ht
  clear ht
  obtain ⟨lf, p, c, k, b⟩ := x
  have B0 : Hid _ := bel_box w #[.bool lf, p, c, k, b]
  have S0 : Hid (OneAt _ w.heap.size _) := OneAt.start w #[.bool lf, p, c, k, b]
  have HC := implTreeOk_any n ⟨lf, p, c, k, b⟩ T _ (TT.out.below B0.out)
  have HC' : Hid _ := HC
  clear HC
  have P1 : Hid (okT T = true → mapT T = toldF 7 T []) := fun h => by rw [mapT, if_pos h, told_map h]
  have P2 : Hid (okT T = false → mapT T = []) := fun h => by rw [mapT, if_neg (by rw [h]; simp)]
  show Calls Try.prog 29 #[.agg #[.bool lf, p, c, k, b]] w _
  cases hok : okT T
  · rw [P2.out hok]
    rw [hok] at HC'
    clear P1 P2
    go_enter Try.func29, Try.ntmps29
    go_wp2_with fail
    refine Calls.mono HC'.out ?_
    rintro e w1 ⟨rfl, hb1⟩
    have B1 : Hid (Below w.heap.size w w1) := Below.and B0.out hb1
    clear hb1 B0
    go_wp2
    go_ret
    exact ⟨_, rfl, World.ownsRow_nil _ _ _ _, B1.out⟩
  · have hml := mapT_length T
    rw [P1.out hok] at hml ⊢
    have HD : Hid (∀ w1, Below w.heap.size w w1 → Calls Try.prog 67 #[.agg #[.bool lf, p, c, k, b], .slice none 0 0] w1 fun e w' => ∃ (gf : Nat) (lb : Array Value) (Dta : Nat → Prop), e = .returned (.func (.func gf) #[] lb) ∧ (∀ args u, (callFunc gf args).run Try.prog u = .ok (.enter gf args) u) ∧ Gives Try.prog gf lb encP Dta (toldF 7 T []) w' ∧
        (∀ g, Dta g → g < w'.heap.size) ∧ (∀ g, Dta g → g < w.heap.size ∨ (Value.slice none 0 0).ownBlock = some g ∨ w1.heap.size ≤ g) ∧ Below w1.heap.size w1 w') :=
      fun w1 hb => told_any 7 n ⟨lf, p, c, k, b⟩ T 0 1000 w w1 (.slice none 0 0) [] TT.out hb (World.ownsRow_nil _ _ _ _) (okT_depth hok) (by simp)
    rw [hok] at HC'
    clear P1 P2
    generalize toldF 7 T [] = M at *
    go_enter Try.func29, Try.ntmps29
    go_wp2_with fail
    refine Calls.mono HC'.out ?_
    rintro e w1 ⟨rfl, hb1⟩
    have B1 : Hid (Below w.heap.size w w1) := Below.and B0.out hb1
    have k0 := (S0.out.step hb1).cells
    clear hb1 B0
    go_wp2_with fail
    refine Calls.mono (HD.out w1 B1.out) ?_
    rintro e w2 ⟨gf, lb, Dta, rfl, eg, hg, dl, _, hb2⟩
    have B2 : Hid (Below w.heap.size w w2) := Below.and B1.out hb2
    have HA : Hid _ := collect_any gf lb Dta M w2 eg hg dl (by omega)
    clear hb2 eg hg dl k0
    go_wp2_with fail
    refine Calls.mono HA.out ?_
    rintro e w3 ⟨v3, rfl, o3, hb3⟩
    have FIN : Hid _ := And.intro (owns_mono o3 B2.out.size) (Below.and B2.out hb3)
    clear hb3 o3
    go_wp2
    go_ret
    exact ⟨_, rfl, FIN.out.1, FIN.out.2⟩

end Go.Proofs.Ytmpiijphpnjlnaa

namespace Go.Proofs.Ytmpiijphpnjlnaa
open Go.RowKit Go.Shelf

attribute [local go_sem] Oper.semAt_some

/-- the caller's blocks: the list's box and row, and the two limits' boxes -/
def XR (B a b : Nat) (W : World) (g : Nat) : Prop := XB B W g ∨ g = a ∨ g = b
def IR (B a b : Nat) (x0 x1 : Int) (s : PL) (W : World) : Prop := IB B (B + 1) (fun s => rangeL s x0 x1) s W ∧ Boxed W a 3 (.int .i64 x0) ∧ Boxed W b 3 (.int .i64 x1)
theorem IR.cl {B a b : Nat} (x0 x1 : Int) : Cl (XR B a b) (IR B a b x0 x1) := by
  refine ⟨fun s W g h hx => ?_, fun s W W' h hc => ?_⟩
  · rcases hx with hx | rfl | rfl
    · exact (IB.cl B (B + 1) _).lt s W g h.1 hx
    · exact h.2.1.lt
    · exact h.2.2.lt
  · obtain ⟨k1, k2⟩ := (IB.cl B (B + 1) _).abide s W W' h.1 (hc.mono fun g _ hn hx => hn (.inl hx))
    exact ⟨⟨k1, (hc.block a h.2.1.lt (fun hn => hn (.inr (.inl rfl)))).trans h.2.1, (hc.block b h.2.2.lt (fun hn => hn (.inr (.inr rfl)))).trans h.2.2⟩, fun g => by
      show (XB B W' g ∨ _) ↔ (XB B W g ∨ _)
      rw [k2 g]⟩
theorem IR.next {B a b : Nat} {x0 x1 : Int} {s s' : PL} {V V' : World} (ha : a < B) (hb : b < B) (h : IR B a b x0 x1 s V) (hi : IB B (B + 1) (fun s => rangeL s x0 x1) s' V') (hk : Kx (XB B) V V') : IR B a b x0 x1 s' V' ∧ Kx (XR B a b) V V' := by
  obtain ⟨⟨v, hv, ho⟩, h2, h3⟩ := h
  have hn : ∀ g, g < B → ¬ XB B V g := fun g hg hx => by
    rcases (XB.of hv g).1 hx with h | h
    · omega
    · have := (ho.lt g h).1; omega
  refine ⟨⟨hi, (hk.chg.block a h2.lt (hn a ha)).trans h2, (hk.chg.block b h3.lt (hn b hb)).trans h3⟩, hk.chg.mono fun g _ hx => .inl hx, fun g hg => ?_⟩
  rcases hg with hg | hg
  · exact (hk.sub g hg).elim (fun h => .inl (.inl h)) .inr
  · exact .inl (.inr hg)

set_option maxRecDepth 100000 in
set_option maxHeartbeats 4000000 in
theorem implTreeRange_any (n : Nat) (x : TV) (T : Tr) (x0 x1 : Int) (w : World) (ht : TreeAt n w x T) :
    Calls Try.prog 34 #[x.val, .int .i64 x0, .int .i64 x1] w fun e w' => ∃ v', e = .returned v' ∧ w'.ownsRow w.heap.size 87 2 v' (rangeT T x0 x1).length (flatP (rangeT T x0 x1)) ∧ Below w.heap.size w w' := by
  have TT : Hid (TreeAt n w x T) := ht
  clear ht
  obtain ⟨i0, hi0, hz0, hz1, hz2⟩ := info_parts Try.info87
  obtain ⟨lf, p, c, k, b⟩ := x
  have B0 : Hid (Below w.heap.size w (((w.alloc (.cells #[.bool lf, p, c, k, b] 29)).alloc (.cells #[.int .i64 x0] 3)).alloc (.cells #[.int .i64 x1] 3))) := (((Below.refl _ _).alloc (Nat.le_refl _) _).alloc (by simp) _).alloc (by simp; omega) _
  have S0 : Hid (OneAt (((w.alloc (.cells #[.bool lf, p, c, k, b] 29)).alloc (.cells #[.int .i64 x0] 3)).alloc (.cells #[.int .i64 x1] 3)) w.heap.size #[.bool lf, p, c, k, b]) := ((OneAt.start w _).step ((Below.refl _ _).alloc (Nat.le_refl _) _)).step ((Below.refl _ _).alloc (Nat.le_refl _) _)
  have L0 : Hid (Boxed (((w.alloc (.cells #[.bool lf, p, c, k, b] 29)).alloc (.cells #[.int .i64 x0] 3)).alloc (.cells #[.int .i64 x1] 3)) (w.heap.size + 1) 3 (.int .i64 x0)) := by
    have := (Boxed.new (w.alloc (.cells #[.bool lf, p, c, k, b] 29)) 3 (.int .i64 x0)).alloc (.cells #[.int .i64 x1] 3)
    rw [World.size_alloc] at this
    exact this
  have H0 : Hid (Boxed (((w.alloc (.cells #[.bool lf, p, c, k, b] 29)).alloc (.cells #[.int .i64 x0] 3)).alloc (.cells #[.int .i64 x1] 3)) (w.heap.size + 2) 3 (.int .i64 x1)) := by
    have := Boxed.new ((w.alloc (.cells #[.bool lf, p, c, k, b] 29)).alloc (.cells #[.int .i64 x0] 3)) 3 (.int .i64 x1)
    rw [World.size_alloc, World.size_alloc] at this
    exact this
  have HC := implTreeOk_any n ⟨lf, p, c, k, b⟩ T _ (TT.out.below B0.out)
  have HC' : Hid _ := HC
  clear HC
  have P1 : Hid (okT T = true → rangeT T x0 x1 = rangeL (toldF 7 T []) x0 x1) := fun h => by rw [rangeT, mapT, if_pos h, told_map h]
  have P2 : Hid (okT T = false → rangeT T x0 x1 = []) := fun h => by rw [rangeT, mapT, if_neg (by rw [h]; simp)]; rfl
  show Calls Try.prog 34 #[.agg #[.bool lf, p, c, k, b], .int .i64 x0, .int .i64 x1] w _
  obtain ⟨k0, k1, k2, k3, k4⟩ := box_cells5 S0.out
  cases hok : okT T
  · rw [P2.out hok]
    rw [hok] at HC'
    clear P1 P2
    go_enter Try.func34, Try.ntmps34
    go_wp2_with fail
    refine Calls.mono HC'.out ?_
    rintro e w1 ⟨rfl, hb1⟩
    have B1 : Hid (Below w.heap.size w w1) := Below.and B0.out hb1
    clear hb1 B0 k0 k1 k2 k3 k4
    go_wp2
    go_ret
    exact ⟨_, rfl, World.ownsRow_nil _ _ _ _, B1.out⟩
  · have hml := mapT_length T
    have hasc : Hid (Asc (toldF 7 T [])) := (toldF_is (okT_depth hok) (fun x hx => by simp at hx)).1.1
    rw [P1.out hok]
    rw [mapT, if_pos hok, ← told_map hok] at hml
    have HD : Hid (∀ w1, Below w.heap.size w w1 → Calls Try.prog 67 #[.agg #[.bool lf, p, c, k, b], .slice none 0 0] w1 fun e w' => ∃ (gf : Nat) (lb : Array Value) (Dta : Nat → Prop), e = .returned (.func (.func gf) #[] lb) ∧ (∀ args u, (callFunc gf args).run Try.prog u = .ok (.enter gf args) u) ∧ Gives Try.prog gf lb encP Dta (toldF 7 T []) w' ∧
        (∀ g, Dta g → g < w'.heap.size) ∧ (∀ g, Dta g → g < w.heap.size ∨ (Value.slice none 0 0).ownBlock = some g ∨ w1.heap.size ≤ g) ∧ Below w1.heap.size w1 w') :=
      fun w1 hb => told_any 7 n ⟨lf, p, c, k, b⟩ T 0 1000 w w1 (.slice none 0 0) [] TT.out hb (World.ownsRow_nil _ _ _ _) (okT_depth hok) (by simp)
    rw [hok] at HC'
    clear P1 P2 TT
    generalize toldF 7 T [] = M at *
    refine (callsIn_wide (n := 5)).1 ?_
    refine callsIn_of_wp_marks Try.func34 rfl trivial ?_ rfl
    simp only [Try.ntmps34, List.size_toArray, List.length_cons, List.length_nil, Nat.reduceAdd, Nat.reduceSub, Array.replicate_succ, Array.replicate_zero, List.push_toArray, List.append_toArray, List.nil_append, List.cons_append]
    refine wpIn_wide.2 ?_
    go_wp2_with fail
    refine Calls.mono HC'.out ?_
    rintro e w1 ⟨rfl, hb1⟩
    have B1 : Hid (Below w.heap.size w w1) := Below.and B0.out hb1
    have S1 : Hid (OneAt w1 w.heap.size _) := S0.out.step hb1
    have L1 : Hid (Boxed w1 (w.heap.size + 1) 3 (.int .i64 x0)) := (hb1.block _ L0.out.lt).trans L0.out
    have H1 : Hid (Boxed w1 (w.heap.size + 2) 3 (.int .i64 x1)) := (hb1.block _ H0.out.lt).trans H0.out
    clear hb1 B0 k0 k1 k2 k3 k4 S0 L0 H0 HC'
    obtain ⟨k0, k1, k2, k3, k4⟩ := box_cells5 S1.out
    have BL : Hid (Below w.heap.size w (w1.alloc (.cells #[.slice none 0 0] 24))) := B1.out.alloc B1.out.size _
    have SL : Hid (OneAt (w1.alloc (.cells #[.slice none 0 0] 24)) w.heap.size _) := S1.out.step ((Below.refl _ _).alloc (Nat.le_refl _) _)
    obtain ⟨g0, g1, g2, g3, g4⟩ := box_cells5 SL.out
    go_wp2_with fail
    refine Calls.mono (HD.out _ BL.out) ?_
    rintro e w2 ⟨gf, lb, Dta, rfl, eg, hg, dl, dc, hb2⟩
    have GV : Hid _ := hg
    have EG : Hid _ := eg
    have DL : Hid _ := dl
    have DC : Hid (∀ g, Dta g → g < w.heap.size ∨ w1.heap.size + 1 ≤ g) := fun g hg => by
      rcases dc g hg with h | h | h
      · exact .inl h
      · cases h
      · rw [World.size_alloc] at h
        exact .inr h
    have B2 : Hid (Below (w1.heap.size + 1) (w1.alloc (.cells #[.slice none 0 0] 24)) w2) := by
      have := hb2
      rw [World.size_alloc] at this
      exact this
    have BX : Hid (Boxed w2 w1.heap.size 24 (.slice none 0 0)) := (B2.out.block _ (Nat.lt_succ_self _)).trans (Boxed.new w1 24 _)
    have L2 : Hid (Boxed w2 (w.heap.size + 1) 3 (.int .i64 x0)) := (B2.out.block _ (by have := L1.out.lt; omega)).trans (L1.out.alloc _)
    have H2 : Hid (Boxed w2 (w.heap.size + 2) 3 (.int .i64 x1)) := (B2.out.block _ (by have := H1.out.lt; omega)).trans (H1.out.alloc _)
    have W2 : Hid (Below w.heap.size w w2) := BL.out.trans (B2.out.mono (by have := B1.out.size; omega))
    clear eg hg dl dc hb2 k0 k1 k2 k3 k4 g0 g1 g2 g3 g4
    go_wp2_with fail
    have LT : Hid (w.heap.size + 1 < w1.heap.size ∧ w.heap.size + 2 < w1.heap.size) := ⟨L1.out.lt, H1.out.lt⟩
    have I0 : Hid (IR w1.heap.size (w.heap.size + 1) (w.heap.size + 2) x0 x1 [] w2) := ⟨⟨.slice none 0 0, BX.out, World.ownsRow_nil _ _ _ _⟩, L2.out, H2.out⟩
    have XL : Hid (∀ g, g < w.heap.size → ¬ XR w1.heap.size (w.heap.size + 1) (w.heap.size + 2) w2 g) := fun g hg hx => by
      have := LT.out.1
      rcases hx with hx | hx | hx
      · rcases (XB.of BX.out g).1 hx with h | h
        · omega
        · cases h
      · omega
      · omega
    refine (wpIn_wide (n := 5)).1 (wpIn_range_cl (gf := gf) (lb := lb) rfl EG.out GV.out (Chg.refl _ _) DL.out (fun _ => rfl) (XR w1.heap.size (w.heap.size + 1) (w.heap.size + 2)) (IR w1.heap.size (w.heap.size + 1) (w.heap.size + 2) x0 x1)
      (fun cd s V => (cd = .exit 0 ∧ ∃ s' q, s = s' ++ [q] ∧ x1 ≤ q.1) ∧ IR w1.heap.size (w.heap.size + 1) (w.heap.size + 2) x0 x1 s V) (IR.cl _ _) (fun cd => ?clx) ?hd I0.out
      (fun q a' V => ∃ Bp, V.heap[Bp]? = some (.cells #[.int .i64 q.1, .int .i64 q.2] 87 (0, 0)) ∧ a' = { tmps := #[.agg #[.bool lf, p, c, k, b], .int .i64 x0, .int .i64 x1, .pointer (some ⟨w.heap.size, 0, none⟩), .pointer (some ⟨w.heap.size + 1, 0, none⟩), .pointer (some ⟨w.heap.size + 1 + 1, 0, none⟩), .slice none 0 0, .pointer (some ⟨w1.heap.size, 0, none⟩), .pointer (some ⟨Bp, 0, none⟩), .agg #[.bool lf, p, c, k, b], .bool true, .bool false, .agg #[.bool lf, p, c, k, b], .func (.func gf) #[] lb, .agg #[.int .i64 q.1, .int .i64 q.2], undef, undef, undef, undef, undef, undef, undef, undef, undef, undef, undef, undef, undef], defers := [] }) ?hax ?assign ?body ?done ?stop)
    case clx =>
      exact ⟨fun s W g hj hx => (IR.cl x0 x1).lt s W g hj.2 hx, fun s W W' hj hc => by
        have := (IR.cl x0 x1).abide s W W' hj.2 hc
        exact ⟨⟨hj.1, this.1⟩, this.2⟩⟩
    case hd =>
      intro g hg hx
      have h1 := LT.out
      rcases DC.out g hg with h | h
      · exact XL.out g h hx
      · rcases hx with hx | hx | hx
        · rcases (XB.of BX.out g).1 hx with h' | h'
          · omega
          · cases h'
        · omega
        · omega
    case hax =>
      rintro q a' V l' o o' ⟨Bp, h1, h2⟩ h3 h4
      refine ⟨Bp, ?_, h2⟩
      rw [World.putObj_heap_other (fun e => ?_)]
      · exact h1
      · subst e
        rw [h1] at h3
        cases h3
        cases h4
    case assign =>
      intro lp pre q V K hi hpre hK
      have AL : Hid _ := (IR.cl x0 x1).alloc hi (.cells #[.int .i64 q.1, .int .i64 q.2] 87)
      have HN : Hid _ := heap_alloc_new V (.cells #[.int .i64 q.1, .int .i64 q.2] 87)
      have HKK : Hid _ := hK
      clear hK hi hpre
      simp only [encP]
      gi_wp2
      exact HKK.out _ _ AL.out.1 AL.out.2 ⟨V.heap.size, HN.out, rfl⟩
    case body =>
      rintro lp pre q a' V hi ⟨Bp, hBp, rfl⟩ hpre
      obtain ⟨⟨v, hv, ho⟩, hl, hh⟩ := hi
      have e0 : V.cell? ⟨Bp, 0, none⟩ = some (.int .i64 q.1) := by rw [cell_of_row V Bp 0 _ 87 (0, 0) hBp]; rfl
      have e1 : V.cell? ⟨Bp, 1, none⟩ = some (.int .i64 q.2) := by rw [cell_of_row V Bp 1 _ 87 (0, 0) hBp]; rfl
      have cl := hl.cell
      have ch := hh.cell
      have c0 := hv.cell
      have HI : Hid (IR w1.heap.size (w.heap.size + 1) (w.heap.size + 2) x0 x1 pre V) := ⟨⟨v, hv, ho⟩, hl, hh⟩
      have HV : Hid (Boxed V w1.heap.size 24 v) := hv
      have HO : Hid (V.ownsRow (w1.heap.size + 1) 87 2 v (rangeL pre x0 x1).length (flatP (rangeL pre x0 x1))) := ho
      have hpl : (rangeL pre x0 x1).length ≤ 4194304 := by
        have := hpre.length_le
        have := rangeL_length pre x0 x1
        simp at *
        omega
      have RS : Hid (rangeL (pre ++ [q]) x0 x1 = if x0 ≤ q.1 ∧ q.1 < x1 then rangeL pre x0 x1 ++ [q] else rangeL pre x0 x1) := rangeL_snoc pre q x0 x1
      have hbs : w1.heap.size + 1 ≤ V.heap.size := hv.lt
      clear hv ho hBp hpre hl hh
      try dsimp only
      by_cases h1 : x1 ≤ q.1
      · have RE : Hid (rangeL (pre ++ [q]) x0 x1 = rangeL pre x0 x1) := RS.out.trans (if_neg (by omega))
        have FIN : Hid (IR w1.heap.size (w.heap.size + 1) (w.heap.size + 2) x0 x1 (pre ++ [q]) V) := ⟨⟨v, HV.out, by show V.ownsRow _ 87 2 v (rangeL (pre ++ [q]) x0 x1).length (flatP (rangeL (pre ++ [q]) x0 x1)); rw [RE.out]; exact HO.out⟩, HI.out.2⟩
        have EX : Hid (x1 ≤ q.1) := h1
        gi_wp2
        exact ⟨⟨⟨rfl, pre, q, rfl, EX.out⟩, FIN.out⟩, Kx.refl _ _⟩
      · by_cases h2 : x0 ≤ q.1
        · have RE : Hid (rangeL (pre ++ [q]) x0 x1 = rangeL pre x0 x1 ++ [q]) := RS.out.trans (if_pos (by omega))
          have HR : Hid _ := room_of (n := (rangeL pre x0 x1).length) (bytes := 16) (by omega) (by decide)
          have H1' : Hid _ := two_one q.1 q.2
          gi_wp2_with (gi_at_builtin; refine appIn_oneL V rfl _ _ 24 rfl (w1.heap.size + 1) 87 i0 _ 2 16 Try.underlying24 hi0 hz0 hz1 hz2 rfl (by decide) v _ _ rfl HO.out [.int .i64 q.1, .int .i64 q.2] rfl rfl H1'.out HR.out.1 HR.out.2 hbs ?_)
          intro v5 w5 o5 c5 l5
          obtain ⟨g5, q5, rfl⟩ := ownsRow_succ o5
          obtain ⟨b5, i5, k5⟩ := IB.put (f := fun s => rangeL s x0 x1) (s := pre) (s' := pre ++ [q]) (p := q) HV.out HO.out RE.out o5 c5 l5
          have FIN : Hid _ := HI.out.next (by have := LT.out.1; omega) (by have := LT.out.2; omega) i5 k5
          have d1 := b5.cell
          have f1 := b5.frozen
          clear o5 c5 l5 b5 i5 k5 e0 e1 c0 cl ch
          gi_wp2
          exact FIN.out
        · have RE : Hid (rangeL (pre ++ [q]) x0 x1 = rangeL pre x0 x1) := RS.out.trans (if_neg (by omega))
          have FIN : Hid (IR w1.heap.size (w.heap.size + 1) (w.heap.size + 2) x0 x1 (pre ++ [q]) V) := ⟨⟨v, HV.out, by show V.ownsRow _ 87 2 v (rangeL (pre ++ [q]) x0 x1).length (flatP (rangeL (pre ++ [q]) x0 x1)); rw [RE.out]; exact HO.out⟩, HI.out.2⟩
          gi_wp2
          exact ⟨FIN.out, Kx.refl _ _⟩
    case done =>
      rintro D W3 hD2 ⟨⟨v, hv, ho⟩, _⟩ hkx hK hnx
      have c0 := hv.cell
      have HV : Hid (Boxed W3 w1.heap.size 24 v) := hv
      have HO : Hid (W3.ownsRow (w1.heap.size + 1) 87 2 v (rangeL M x0 x1).length (flatP (rangeL M x0 x1))) := ho
      have HK : Hid _ := hkx
      have HDF : Hid _ := hK
      have NX : Hid _ := hnx
      clear hv ho hkx hK hnx
      try dsimp only
      go_wp2
      show LeavesInM Fence.wide 5 Try.prog Try.f34 _ _ ([D].map mkD) .returning W3
      refine leaves_marks [D] W3 (fun d hd => by obtain rfl := List.mem_singleton.1 hd; exact HDF.out) (by simp) (fun W' hc => ?_)
      have hO' := owns_chg HO.out hc (fun g hg hm => NX.out (.inl (by obtain rfl := List.mem_singleton.1 hm; exact (XB.of HV.out _).2 (.inr hg))))
      have hB2 : Below w.heap.size w W3 := below_chg W2.out HK.out.chg W2.out.size (fun g hg hx => XL.out g hg hx)
      have hB3 : Below w.heap.size w W' := below_chg hB2 hc hB2.size (fun g hg hm => by
        obtain rfl := List.mem_singleton.1 hm
        have := W2.out.size
        omega)
      exact ⟨v, by simp [results, Try.results34, go_sem], v, rfl, owns_mono hO' (by have := LT.out.1; omega), hB3⟩
    case stop =>
      rintro D cd pre W3 hD2 hpre ⟨⟨rfl, s', q, rfl, hq⟩, ⟨v, hv, ho⟩, _⟩ hkx hK hnx
      have c0 := hv.cell
      have HV : Hid (Boxed W3 w1.heap.size 24 v) := hv
      have ER : rangeL (s' ++ [q]) x0 x1 = rangeL M x0 x1 := by
        obtain ⟨r, hr⟩ := hpre
        have hM : s' ++ q :: r = M := by rw [← hr]; simp
        have h1 : rangeL M x0 x1 = rangeL s' x0 x1 := by rw [← hM]; exact rangeL_stop (by rw [hM]; exact hasc.out) hq
        rw [h1, rangeL_snoc, if_neg (by omega)]
      have HO : Hid (W3.ownsRow (w1.heap.size + 1) 87 2 v (rangeL M x0 x1).length (flatP (rangeL M x0 x1))) := by
        have := ho
        simp only [ER] at this
        exact this
      have HK : Hid _ := hkx
      have HDF : Hid _ := hK
      have NX : Hid _ := hnx
      clear hv ho hkx hK hnx hpre hq ER
      refine wpIn_wide.2 ?_
      try dsimp only
      go_wp2
      show LeavesInM Fence.wide 5 Try.prog Try.f34 _ _ ([D].map mkD) .returning W3
      refine leaves_marks [D] W3 (fun d hd => by obtain rfl := List.mem_singleton.1 hd; exact HDF.out) (by simp) (fun W' hc => ?_)
      have hO' := owns_chg HO.out hc (fun g hg hm => NX.out (.inl (by obtain rfl := List.mem_singleton.1 hm; exact (XB.of HV.out _).2 (.inr hg))))
      have hB2 : Below w.heap.size w W3 := below_chg W2.out HK.out.chg W2.out.size (fun g hg hx => XL.out g hg hx)
      have hB3 : Below w.heap.size w W' := below_chg hB2 hc hB2.size (fun g hg hm => by
        obtain rfl := List.mem_singleton.1 hm
        have := W2.out.size
        omega)
      exact ⟨v, by simp [results, Try.results34, go_sem], v, rfl, owns_mono hO' (by have := LT.out.1; omega), hB3⟩

end Go.Proofs.Ytmpiijphpnjlnaa

namespace Go.Proofs.Ytmpiijphpnjlnaa
open Go.RowKit

/-- a cell that may be written: a number by a number; a tree's flag by a flag -/
def Like (t j : Nat) (v v' : Value) : Prop := v' = v ∨ (t ≠ 29 ∧ (∃ x, v = .int .i64 x) ∧ ∃ x, v' = .int .i64 x) ∨ (t = 29 ∧ j % 5 = 0 ∧ (∃ b, v = .bool b) ∧ ∃ b, v' = .bool b)
theorem Like.trans {t j : Nat} {a b c : Value} (h : Like t j a b) (k : Like t j b c) : Like t j a c := by
  rcases h with rfl | ⟨h1, h2, h3⟩ | ⟨h1, h2, h3, h4⟩
  · exact k
  · rcases k with rfl | ⟨_, _, k3⟩ | ⟨k1, _⟩
    · exact .inr (.inl ⟨h1, h2, h3⟩)
    · exact .inr (.inl ⟨h1, h2, k3⟩)
    · exact absurd k1 h1
  · rcases k with rfl | ⟨k1, _⟩ | ⟨_, _, _, k4⟩
    · exact .inr (.inr ⟨h1, h2, h3, h4⟩)
    · exact absurd h1 k1
    · exact .inr (.inr ⟨h1, h2, h3, k4⟩)

/-- WHAT MARKS CHANGE: within the blocks from lo on and below hi alone, like by like. -/
structure Mk (lo hi : Nat) (w w' : World) : Prop where
  chg : Chg (fun g => lo ≤ g ∧ g < hi) w w'
  like : ∀ g A t, lo ≤ g → g < hi → w.heap[g]? = some (.cells A t (0, 0)) → ∃ A' : Array Value, w'.heap[g]? = some (.cells A' t (0, 0)) ∧ ∀ j v, A[j]? = some v → ∃ v', A'[j]? = some v' ∧ Like t j v v'
theorem Mk.refl (lo hi : Nat) (w : World) : Mk lo hi w w := ⟨Chg.refl _ _, fun _ A _ _ _ h => ⟨A, h, fun _ v hv => ⟨v, hv, .inl rfl⟩⟩⟩
theorem Mk.trans {lo hi : Nat} {a b c : World} (h : Mk lo hi a b) (k : Mk lo hi b c) : Mk lo hi a c := by
  refine ⟨h.chg.trans k.chg fun _ _ e => e, fun g A t h1 h2 h3 => ?_⟩
  obtain ⟨A', h4, h5⟩ := h.like g A t h1 h2 h3
  obtain ⟨A'', h6, h7⟩ := k.like g A' t h1 h2 h4
  refine ⟨A'', h6, fun j v hv => ?_⟩
  obtain ⟨v', h8, h9⟩ := h5 j v hv
  obtain ⟨v'', h10, h11⟩ := h7 j v' h8
  exact ⟨v'', h10, h9.trans h11⟩
theorem Mk.alloc {lo hi : Nat} {a b : World} (h : Mk lo hi a b) (o : Obj) : Mk lo hi a (b.alloc o) := by
  refine ⟨h.chg.alloc o, fun g A t h1 h2 h3 => ?_⟩
  obtain ⟨A', h4, h5⟩ := h.like g A t h1 h2 h3
  exact ⟨A', by rw [((Below.refl b.heap.size b).alloc (Nat.le_refl _) o).block g (Array.getElem?_eq_some_iff.1 h4).1]; exact h4, h5⟩

theorem Mk.of_below {lo hi : Nat} {a b : World} (h : Below hi a b) (hs : a.heap.size ≤ hi) : Mk lo hi a b :=
  ⟨⟨h.os, h.tape, h.output, h.size, fun g hg _ => h.block g (Nat.lt_of_lt_of_le hg hs)⟩, fun g A _ _ h2 h3 => ⟨A, by rw [h.block g h2]; exact h3, fun _ v hv => ⟨v, hv, .inl rfl⟩⟩⟩

/-- A BLOCK OF NUMBERS, as far as m. -/
def Blk (w : World) (g t m : Nat) : Prop := ∃ A : Array Value, w.heap[g]? = some (.cells A t (0, 0)) ∧ ∀ j, j < m → ∃ x, A[j]? = some (.int .i64 x)
theorem Blk.cell {w : World} {g t m : Nat} (h : Blk w g t m) {j : Nat} (hj : j < m) : (∃ x, w.cell? ⟨g, j, none⟩ = some (.int .i64 x)) ∧ w.frozen? ⟨g, j, none⟩ = false := by
  obtain ⟨A, h1, h2⟩ := h
  obtain ⟨x, hx⟩ := h2 j hj
  exact ⟨⟨x, (cell_of_row w g j A t (0, 0) h1).trans hx⟩, frozen_of_row w g j A t h1⟩
theorem Blk.set {w : World} {g t m : Nat} (h : Blk w g t m) (j : Nat) (y : Int) : Blk (w.setCell ⟨g, j, none⟩ (.int .i64 y)) g t m := by
  obtain ⟨A, h1, h2⟩ := h
  refine ⟨_, heap_setCell_same w g j A t _ h1, fun i hi => ?_⟩
  obtain ⟨x, hx⟩ := h2 i hi
  by_cases hij : j = i
  · subst hij
    exact ⟨y, by rw [Array.getElem?_setIfInBounds_self_of_lt (Array.getElem?_eq_some_iff.1 hx).1]⟩
  · exact ⟨x, by rw [Array.getElem?_setIfInBounds_ne hij]; exact hx⟩
theorem Mk.setInt {lo hi : Nat} {w w' : World} (h : Mk lo hi w w') {g t m j : Nat} (hb : Blk w' g t m) (h1 : lo ≤ g) (h2 : g < hi) (ht : t ≠ 29) (hj : j < m) (y : Int) : Mk lo hi w (w'.setCell ⟨g, j, none⟩ (.int .i64 y)) := by
  refine h.trans ⟨(Chg.refl _ _).setAt g j ⟨h1, h2⟩ _, fun g' A t' _ _ h3 => ?_⟩
  by_cases hg : g' = g
  · subst hg
    obtain ⟨B, hB, hB2⟩ := hb
    rw [hB] at h3
    cases h3
    refine ⟨_, heap_setCell_same w' g' j _ _ _ hB, fun i v hv => ?_⟩
    by_cases hij : j = i
    · subst hij
      obtain ⟨x, hx⟩ := hB2 j hj
      rw [hx] at hv
      cases hv
      exact ⟨.int .i64 y, by rw [Array.getElem?_setIfInBounds_self_of_lt (Array.getElem?_eq_some_iff.1 hx).1], .inr (.inl ⟨ht, ⟨x, rfl⟩, ⟨y, rfl⟩⟩)⟩
    · exact ⟨v, by rw [Array.getElem?_setIfInBounds_ne hij]; exact hv, .inl rfl⟩
  · exact ⟨A, by rw [Below.heap_setCell _ _ _ _ hg]; exact h3, fun _ v hv => ⟨v, hv, .inl rfl⟩⟩
theorem Blk.mk {lo hi : Nat} {w w' : World} {g t m : Nat} (h : Blk w g t m) (k : Mk lo hi w w') (h1 : lo ≤ g) (h2 : g < hi) (ht : t ≠ 29) : Blk w' g t m := by
  obtain ⟨A, h3, h4⟩ := h
  obtain ⟨A', h5, h6⟩ := k.like g A t h1 h2 h3
  refine ⟨A', h5, fun j hj => ?_⟩
  obtain ⟨x, hx⟩ := h4 j hj
  obtain ⟨v', h7, h8⟩ := h6 j _ hx
  rcases h8 with rfl | ⟨_, _, ⟨y, rfl⟩⟩ | ⟨e, _⟩
  · exact ⟨x, h7⟩
  · exact ⟨y, h7⟩
  · exact absurd e ht

/-- A ROW OF NUMBERS within the bounds, whatever they are. -/
def IntRow (w : World) (lo hi : Nat) (v : Value) (n size : Nat) : Prop :=
  ∃ (a : Option Addr) (g cap t : Nat), v = .slice a n cap ∧ n ≤ cap ∧ cap ≤ maxLen ∧ (0 < n → a = some ⟨g, 0, none⟩ ∧ lo ≤ g ∧ g < hi ∧ t ≠ 29 ∧ Blk w g t (n * size))
theorem IntRow.mk {lo hi : Nat} {w w' : World} {v : Value} {n size : Nat} (h : IntRow w lo hi v n size) (k : Mk lo hi w w') : IntRow w' lo hi v n size := by
  obtain ⟨a, g, cap, t, h1, h2, h3, h4⟩ := h
  exact ⟨a, g, cap, t, h1, h2, h3, fun hn => by obtain ⟨q1, q2, q3, q4, q5⟩ := h4 hn; exact ⟨q1, q2, q3, q4, q5.mk k q2 q3 q4⟩⟩

/-- A BLOCK OF TREES' STRUCTS. -/
def TBlk (w : World) (g : Nat) (xs : List TV) : Prop := ∃ A : Array Value, w.heap[g]? = some (.cells A 29 (0, 0)) ∧ ∀ i, i < xs.length → (∃ b, A[i * 5]? = some (.bool b)) ∧ A[i * 5 + 1]? = some (tvAt xs i).p ∧ A[i * 5 + 2]? = some (tvAt xs i).c ∧ A[i * 5 + 3]? = some (tvAt xs i).k ∧ A[i * 5 + 4]? = some (tvAt xs i).b
theorem TBlk.cells {w : World} {g : Nat} {xs : List TV} (h : TBlk w g xs) {i : Nat} (hi : i < xs.length) : (∃ b, w.cell? ⟨g, i * 5, none⟩ = some (.bool b)) ∧ w.cell? ⟨g, i * 5 + 1, none⟩ = some (tvAt xs i).p ∧ w.cell? ⟨g, i * 5 + 2, none⟩ = some (tvAt xs i).c ∧ w.cell? ⟨g, i * 5 + 3, none⟩ = some (tvAt xs i).k ∧ w.cell? ⟨g, i * 5 + 4, none⟩ = some (tvAt xs i).b ∧ w.frozen? ⟨g, i * 5, none⟩ = false := by
  obtain ⟨A, h1, h2⟩ := h
  obtain ⟨⟨b, h3⟩, h4, h5, h6, h7⟩ := h2 i hi
  have c := fun j => cell_of_row w g j A 29 (0, 0) h1
  exact ⟨⟨b, (c _).trans h3⟩, (c _).trans h4, (c _).trans h5, (c _).trans h6, (c _).trans h7, frozen_of_row w g _ A 29 h1⟩
theorem TBlk.mk {lo hi : Nat} {w w' : World} {g : Nat} {xs : List TV} (h : TBlk w g xs) (k : Mk lo hi w w') (h1 : lo ≤ g) (h2 : g < hi) : TBlk w' g xs := by
  obtain ⟨A, h3, h4⟩ := h
  obtain ⟨A', h5, h6⟩ := k.like g A 29 h1 h2 h3
  refine ⟨A', h5, fun i hi => ?_⟩
  obtain ⟨⟨b, q0⟩, q1, q2, q3, q4⟩ := h4 i hi
  have fix : ∀ j v, A[j]? = some v → j % 5 ≠ 0 → A'[j]? = some v := fun j v hv hj => by
    obtain ⟨v', h7, h8⟩ := h6 j v hv
    rcases h8 with rfl | ⟨e, _⟩ | ⟨_, e, _⟩
    · exact h7
    · exact absurd rfl e
    · exact absurd e hj
  refine ⟨?_, fix _ _ q1 (by omega), fix _ _ q2 (by omega), fix _ _ q3 (by omega), fix _ _ q4 (by omega)⟩
  obtain ⟨v', h7, h8⟩ := h6 _ _ q0
  rcases h8 with rfl | ⟨e, _⟩ | ⟨_, _, _, ⟨b', rfl⟩⟩
  · exact ⟨b, h7⟩
  · exact absurd rfl e
  · exact ⟨b', h7⟩
theorem Mk.setFlag {lo hi : Nat} {w w' : World} (h : Mk lo hi w w') {g i : Nat} {xs : List TV} (hb : TBlk w' g xs) (h1 : lo ≤ g) (h2 : g < hi) (hix : i < xs.length) (y : Bool) : Mk lo hi w (w'.setCell ⟨g, i * 5, none⟩ (.bool y)) := by
  refine h.trans ⟨(Chg.refl _ _).setAt g (i * 5) ⟨h1, h2⟩ _, fun g' A t' _ _ h3 => ?_⟩
  by_cases hg : g' = g
  · subst hg
    obtain ⟨B, hB, hB2⟩ := hb
    rw [hB] at h3
    cases h3
    refine ⟨_, heap_setCell_same w' g' (i * 5) _ _ _ hB, fun j v hv => ?_⟩
    by_cases hij : i * 5 = j
    · subst hij
      obtain ⟨⟨x, hx⟩, _⟩ := hB2 i hix
      rw [hx] at hv
      cases hv
      exact ⟨.bool y, by rw [Array.getElem?_setIfInBounds_self_of_lt (Array.getElem?_eq_some_iff.1 hx).1], .inr (.inr ⟨rfl, by omega, ⟨x, rfl⟩, ⟨y, rfl⟩⟩)⟩
    · exact ⟨v, by rw [Array.getElem?_setIfInBounds_ne hij]; exact hv, .inl rfl⟩
  · exact ⟨A, by rw [Below.heap_setCell _ _ _ _ hg]; exact h3, fun _ v hv => ⟨v, hv, .inl rfl⟩⟩
/-- A ROW OF TREES' STRUCTS within the bounds. -/
def TreeRow (w : World) (lo hi : Nat) (v : Value) (xs : List TV) : Prop :=
  ∃ (a : Option Addr) (g cap : Nat), v = .slice a xs.length cap ∧ xs.length ≤ cap ∧ cap ≤ maxLen ∧ (0 < xs.length → a = some ⟨g, 0, none⟩ ∧ lo ≤ g ∧ g < hi ∧ TBlk w g xs)
theorem TreeRow.mk {lo hi : Nat} {w w' : World} {v : Value} {xs : List TV} (h : TreeRow w lo hi v xs) (k : Mk lo hi w w') : TreeRow w' lo hi v xs := by
  obtain ⟨a, g, cap, h1, h2, h3, h4⟩ := h
  exact ⟨a, g, cap, h1, h2, h3, fun hn => by obtain ⟨q1, q2, q3, q5⟩ := h4 hn; exact ⟨q1, q2, q3, q5.mk k q2 q3⟩⟩

/-- A TREE WITHIN THE BOUNDS, whatever its numbers and flags are. -/
def WkTree : Nat → World → Nat → Nat → TV → Tr → Prop
  | 0, _, _, _, _, _ => False
  | n + 1, w, lo, hi, x, T => IntRow w lo hi x.p T.pairs.length 2 ∧ IntRow w lo hi x.c T.cuts.length 1 ∧ IntRow w lo hi x.b T.buf.length 3 ∧
      ∃ xs : List TV, xs.length = T.kids.length ∧ TreeRow w lo hi x.k xs ∧ ∀ i, i < xs.length → WkTree n w lo hi (tvAt xs i) (T.kids.getD i noTr)
def WkTrees (n : Nat) (w : World) (lo hi : Nat) (v : Value) (ts : List Tr) : Prop :=
  ∃ xs : List TV, xs.length = ts.length ∧ TreeRow w lo hi v xs ∧ ∀ i, i < xs.length → WkTree n w lo hi (tvAt xs i) (ts.getD i noTr)
theorem WkTree.mk : ∀ {n : Nat} {w w' : World} {lo hi : Nat} {x : TV} {T : Tr}, WkTree n w lo hi x T → Mk lo hi w w' → WkTree n w' lo hi x T
  | 0, _, _, _, _, _, _, h, _ => h
  | _ + 1, _, _, _, _, _, _, ⟨h1, h2, h3, xs, h4, h5, h6⟩, k => ⟨h1.mk k, h2.mk k, h3.mk k, xs, h4, h5.mk k, fun i hi => (h6 i hi).mk k⟩

/-- how many marks -/
def mkT : Nat → Tr → Nat
  | 0, _ => 0
  | n + 1, T => 2 * T.pairs.length + T.cuts.length + (T.kids.length + (T.kids.map (mkT n)).sum) + 3 * T.buf.length
def mkTo (n : Nat) (ts : List Tr) (i : Nat) : Nat := i + ((ts.take i).map (mkT n)).sum
def mkTs (n : Nat) (ts : List Tr) : Nat := ts.length + (ts.map (mkT n)).sum
theorem mkTo_succ (n : Nat) (ts : List Tr) (i : Nat) (h : i < ts.length) : mkTo n ts (i + 1) = mkTo n ts i + (1 + mkT n (ts.getD i noTr)) := by
  rw [mkTo, mkTo, List.take_succ_eq_append_getElem h, List.map_append, List.sum_append]
  simp [List.getD, h]
  omega
theorem mkTo_full (n : Nat) (ts : List Tr) : mkTo n ts ts.length = mkTs n ts := by simp [mkTo, mkTs]
theorem mkTo_le (n : Nat) (ts : List Tr) (i : Nat) (hi : i ≤ ts.length) : mkTo n ts i ≤ mkTs n ts := by
  have h : (ts.map (mkT n)).sum = ((ts.take i).map (mkT n)).sum + ((ts.drop i).map (mkT n)).sum := by
    rw [← List.sum_append, ← List.map_append, List.take_append_drop]
  rw [mkTo, mkTs, h]
  omega
theorem mkT_le : ∀ (n : Nat) (T : Tr), mkT n T ≤ 3 * sizeT n T
  | 0, _ => Nat.zero_le _
  | n + 1, T => by
    have : ∀ ts : List Tr, (ts.map (mkT n)).sum ≤ 3 * (ts.map (sizeT n)).sum := fun ts => by
      induction ts with
      | nil => simp
      | cons t ts ih =>
        have := mkT_le n t
        simp only [List.map_cons, List.sum_cons]
        omega
    have := this T.kids
    rw [mkT, sizeT]
    omega

set_option maxHeartbeats 1000000 in
theorem markIntS_w (v : Value) (n : Nat) (k : Int) (w : World) (lo hi : Nat) (h : IntRow w lo hi v n 1) (hk0 : 0 ≤ k) (hk1 : k + n ≤ 1099511627776) :
    Calls Try.prog 59 #[v, .int .i64 k] w fun e w' => e = .returned (.int .i64 (k + n)) ∧ Mk lo hi w w' := by
  obtain ⟨a, g, cap, t, rfl, hcap, hmax, ha⟩ := h
  have HA : Hid (0 < n → a = some ⟨g, 0, none⟩ ∧ lo ≤ g ∧ g < hi ∧ t ≠ 29 ∧ Blk w g t (n * 1)) := ha
  unfold maxLen at hmax
  clear ha
  go_enter Try.func59, Try.ntmps59
  go_wp2
  go_loopw [1, 5] (fun kk i wr => ∃ j : Nat, j ≤ n ∧ i = .int .i64 j ∧ kk = .int .i64 (k + j) ∧ Hid (Mk lo hi w wr)) (fun _ i _ => n - (intOf i).toNat)
  case atStart => exact ⟨0, Nat.zero_le _, rfl, by simp, Mk.refl _ _ _⟩
  case round =>
    obtain ⟨j, hj, rfl, rfl, MK⟩ := hrel
    by_cases hlt : j < n
    · obtain ⟨rfl, h1, h2, h3, h4⟩ := HA.out (by omega)
      have BK : Hid (Blk wr g t (n * 1)) := h4.mk MK.out h1 h2 h3
      obtain ⟨⟨x0, c0⟩, f0⟩ := BK.out.cell (j := j) (by omega)
      have FIN : Hid (Mk lo hi w (wr.setCell ⟨g, j, none⟩ (.int .i64 (k + j)))) := MK.out.setInt BK.out h1 h2 h3 (by omega) _
      clear h4 MK
      go_wp2
      go_roundw
      case rel => exact ⟨j + 1, by omega, by go_num, by go_num, FIN⟩
      case measure => simp [intOf]; omega
    · have hjl : j = n := by omega
      subst hjl
      go_wp2
      go_ret
      exact ⟨rfl, MK.out⟩

set_option maxHeartbeats 1000000 in
theorem markPairS_w (v : Value) (n : Nat) (k : Int) (w : World) (lo hi : Nat) (h : IntRow w lo hi v n 2) (hk0 : 0 ≤ k) (hk1 : k + 2 * n ≤ 1099511627776) :
    Calls Try.prog 31 #[v, .int .i64 k] w fun e w' => e = .returned (.int .i64 (k + 2 * n)) ∧ Mk lo hi w w' := by
  obtain ⟨a, g, cap, t, rfl, hcap, hmax, ha⟩ := h
  have HA : Hid (0 < n → a = some ⟨g, 0, none⟩ ∧ lo ≤ g ∧ g < hi ∧ t ≠ 29 ∧ Blk w g t (n * 2)) := ha
  unfold maxLen at hmax
  clear ha
  go_enter Try.func31, Try.ntmps31
  go_wp2
  go_loopw [1, 5] (fun kk i wr => ∃ j : Nat, j ≤ n ∧ i = .int .i64 j ∧ kk = .int .i64 (k + 2 * j) ∧ Hid (Mk lo hi w wr)) (fun _ i _ => n - (intOf i).toNat)
  case atStart => exact ⟨0, Nat.zero_le _, rfl, by simp, Mk.refl _ _ _⟩
  case round =>
    obtain ⟨j, hj, rfl, rfl, MK⟩ := hrel
    by_cases hlt : j < n
    · obtain ⟨rfl, h1, h2, h3, h4⟩ := HA.out (by omega)
      have BK : Hid (Blk wr g t (n * 2)) := h4.mk MK.out h1 h2 h3
      obtain ⟨⟨x0, c0⟩, f0⟩ := BK.out.cell (j := j * 2) (by omega)
      obtain ⟨⟨x1, c1⟩, f1⟩ := BK.out.cell (j := j * 2 + 1) (by omega)
      have FIN : Hid (Mk lo hi w ((wr.setCell ⟨g, j * 2, none⟩ (.int .i64 (k + 2 * j))).setCell ⟨g, j * 2 + 1, none⟩ (.int .i64 (k + 2 * j + 1)))) := (MK.out.setInt BK.out h1 h2 h3 (by omega) _).setInt (BK.out.set _ _) h1 h2 h3 (by omega) _
      clear h4 MK
      have hb0 : 0 ≤ k + 2 * (j : Int) := by omega
      have hb1 : k + 2 * (j : Int) + 2 ≤ 1099511627776 := by omega
      go_wp2
      go_roundw
      case rel => exact ⟨j + 1, by omega, by go_num, by go_num, FIN⟩
      case measure => simp [intOf]; omega
    · have hjl : j = n := by omega
      subst hjl
      go_wp2
      go_ret
      exact ⟨rfl, MK.out⟩

set_option maxHeartbeats 1000000 in
theorem markMsgS_w (v : Value) (n : Nat) (k : Int) (w : World) (lo hi : Nat) (h : IntRow w lo hi v n 3) (hk0 : 0 ≤ k) (hk1 : k + 3 * n ≤ 1099511627776) :
    Calls Try.prog 24 #[v, .int .i64 k] w fun e w' => e = .returned (.int .i64 (k + 3 * n)) ∧ Mk lo hi w w' := by
  obtain ⟨a, g, cap, t, rfl, hcap, hmax, ha⟩ := h
  have HA : Hid (0 < n → a = some ⟨g, 0, none⟩ ∧ lo ≤ g ∧ g < hi ∧ t ≠ 29 ∧ Blk w g t (n * 3)) := ha
  unfold maxLen at hmax
  clear ha
  go_enter Try.func24, Try.ntmps24
  go_wp2
  go_loopw [1, 5] (fun kk i wr => ∃ j : Nat, j ≤ n ∧ i = .int .i64 j ∧ kk = .int .i64 (k + 3 * j) ∧ Hid (Mk lo hi w wr)) (fun _ i _ => n - (intOf i).toNat)
  case atStart => exact ⟨0, Nat.zero_le _, rfl, by simp, Mk.refl _ _ _⟩
  case round =>
    obtain ⟨j, hj, rfl, rfl, MK⟩ := hrel
    by_cases hlt : j < n
    · obtain ⟨rfl, h1, h2, h3, h4⟩ := HA.out (by omega)
      have BK : Hid (Blk wr g t (n * 3)) := h4.mk MK.out h1 h2 h3
      obtain ⟨⟨x0, c0⟩, f0⟩ := BK.out.cell (j := j * 3) (by omega)
      obtain ⟨⟨x1, c1⟩, f1⟩ := BK.out.cell (j := j * 3 + 1) (by omega)
      obtain ⟨⟨x2, c2⟩, f2⟩ := BK.out.cell (j := j * 3 + 2) (by omega)
      have FIN : Hid (Mk lo hi w (((wr.setCell ⟨g, j * 3, none⟩ (.int .i64 (k + 3 * j))).setCell ⟨g, j * 3 + 1, none⟩ (.int .i64 (k + 3 * j + 1))).setCell ⟨g, j * 3 + 2, none⟩ (.int .i64 (k + 3 * j + 1 + 1)))) := ((MK.out.setInt BK.out h1 h2 h3 (by omega) _).setInt (BK.out.set _ _) h1 h2 h3 (by omega) _).setInt ((BK.out.set _ _).set _ _) h1 h2 h3 (by omega) _
      clear h4 MK
      have hb0 : 0 ≤ k + 3 * (j : Int) := by omega
      have hb1 : k + 3 * (j : Int) + 3 ≤ 1099511627776 := by omega
      go_wp2
      go_roundw
      case rel => exact ⟨j + 1, by omega, by go_num, by go_num, FIN⟩
      case measure => simp [intOf]; omega
    · have hjl : j = n := by omega
      subst hjl
      go_wp2
      go_ret
      exact ⟨rfl, MK.out⟩

def MarkTS (n : Nat) : Prop := ∀ (v : Value) (ts : List Tr) (k : Int) (w : World) (lo hi : Nat), WkTrees n w lo hi v ts → 0 ≤ k → k + (mkTs n ts : Nat) ≤ 1099511627776 →
  Calls Try.prog 60 #[v, .int .i64 k] w fun e w' => e = .returned (.int .i64 (k + (mkTs n ts : Nat))) ∧ Mk lo hi w w'

set_option maxHeartbeats 2000000 in
theorem markTS_of (n : Nat) (H : ∀ n', n = n' + 1 → MarkTS n') : MarkTS n := by
  intro v ts k w lo hi hw hk0 hk1
  obtain ⟨xs, hxl, ⟨a, g, cap, rfl, hcap, hmax, ha⟩, hkid⟩ := hw
  have HA : Hid (0 < xs.length → a = some ⟨g, 0, none⟩ ∧ lo ≤ g ∧ g < hi ∧ TBlk w g xs) := ha
  have HK : Hid (∀ i, i < xs.length → WkTree n w lo hi (tvAt xs i) (ts.getD i noTr)) := hkid
  have MS : Hid (∀ i, i < xs.length → mkTo n ts (i + 1) = mkTo n ts i + (1 + mkT n (ts.getD i noTr))) := fun i hi => mkTo_succ n ts i (by omega)
  have ML : Hid (∀ i, i ≤ xs.length → mkTo n ts i ≤ mkTs n ts) := fun i hi => mkTo_le n ts i (by omega)
  have MF : Hid (mkTo n ts xs.length = mkTs n ts) := by
    show _ = _
    rw [hxl, mkTo_full]
  have M0 : Hid (mkTo n ts 0 = 0) := by
    show _ = _
    simp [mkTo]
  unfold maxLen at hmax
  clear ha hkid hxl
  generalize mkTs n ts = TOT at *
  generalize mkTo n ts = fo at *
  have XL : Hid (∀ u : World, ∀ g', TBlk u g' xs → ∀ i, i < xs.length → (∃ b, u.cell? ⟨g', i * 5, none⟩ = some (.bool b)) ∧ u.cell? ⟨g', i * 5 + 1, none⟩ = some (tvAt xs i).p ∧ u.cell? ⟨g', i * 5 + 2, none⟩ = some (tvAt xs i).c ∧ u.cell? ⟨g', i * 5 + 3, none⟩ = some (tvAt xs i).k ∧ u.cell? ⟨g', i * 5 + 4, none⟩ = some (tvAt xs i).b ∧ u.frozen? ⟨g', i * 5, none⟩ = false) := fun u g' h i hi => h.cells hi
  have FL : Hid (∀ (a' b' : World) (g' i : Nat) (y : Bool), Mk lo hi a' b' → TBlk b' g' xs → lo ≤ g' → g' < hi → i < xs.length → Mk lo hi a' (b'.setCell ⟨g', i * 5, none⟩ (.bool y))) := fun a' b' g' i y h hb h1 h2 hi => h.setFlag hb h1 h2 hi y
  generalize hm : xs.length = m at *
  go_enter Try.func60, Try.ntmps60
  go_wp2
  go_loopw [1, 5] (fun kk i wr => ∃ j : Nat, j ≤ m ∧ i = .int .i64 j ∧ kk = .int .i64 (k + (fo j : Nat)) ∧ Hid (Mk lo hi w wr)) (fun _ i _ => m - (intOf i).toNat)
  case atStart => exact ⟨0, Nat.zero_le _, rfl, by rw [M0.out]; simp, Mk.refl _ _ _⟩
  case round =>
    obtain ⟨j, hj, rfl, rfl, MK⟩ := hrel
    by_cases hlt : j < m
    · obtain ⟨rfl, h1, h2, h4⟩ := HA.out (by omega)
      have TB : Hid (TBlk wr g xs) := h4.mk MK.out h1 h2
      have WT := HK.out j hlt
      have hms := MS.out j hlt
      have hml := ML.out (j + 1) (by omega)
      cases n with
      | zero => exact WT.elim
      | succ n =>
      obtain ⟨w1, w2, w3, w4⟩ := WT
      have W1 : Hid (IntRow w lo hi (tvAt xs j).p (ts.getD j noTr).pairs.length 2) := w1
      have W2 : Hid (IntRow w lo hi (tvAt xs j).c (ts.getD j noTr).cuts.length 1) := w2
      have W3 : Hid (IntRow w lo hi (tvAt xs j).b (ts.getD j noTr).buf.length 3) := w3
      have W4 : Hid (WkTrees n w lo hi (tvAt xs j).k (ts.getD j noTr).kids) := w4
      have HH : Hid (MarkTS n) := H n rfl
      have hme : mkT (n + 1) (ts.getD j noTr) = 2 * (ts.getD j noTr).pairs.length + (ts.getD j noTr).cuts.length + mkTs n (ts.getD j noTr).kids + 3 * (ts.getD j noTr).buf.length := rfl
      rw [hme] at hms
      have MSE : Hid _ := hms
      clear w1 w2 w3 w4 hme h4 H
      obtain ⟨⟨b0, c0⟩, c1, c2, c3, c4, f0⟩ := XL.out wr g TB.out j hlt
      have M1 : Hid (Mk lo hi w (wr.setCell ⟨g, j * 5, none⟩ (.bool ((k + (fo j : Nat)) % 3 == 0)))) := FL.out _ _ _ _ _ MK.out TB.out h1 h2 hlt
      have H1' : Hid (lo ≤ g ∧ g < hi) := ⟨h1, h2⟩
      have HA' : Hid (TBlk w g xs) := (HA.out (by omega)).2.2.2
      have LK : Hid (∀ u : World, Mk lo hi w u → u.cell? ⟨g, j * 5 + 1, none⟩ = some (tvAt xs j).p ∧ u.cell? ⟨g, j * 5 + 2, none⟩ = some (tvAt xs j).c ∧ u.cell? ⟨g, j * 5 + 3, none⟩ = some (tvAt xs j).k ∧ u.cell? ⟨g, j * 5 + 4, none⟩ = some (tvAt xs j).b) := fun u hu => by
        have := XL.out u g (HA'.out.mk hu H1'.out.1 H1'.out.2) j hlt
        exact ⟨this.2.1, this.2.2.1, this.2.2.2.1, this.2.2.2.2.1⟩
      clear h1 h2 TB MK XL FL
      generalize tvAt xs j = y at *
      obtain ⟨yl, yp, yc, yk, yb⟩ := y
      simp only at W1 W2 W3 W4 c1 c2 c3 c4 LK
      generalize (ts.getD j noTr).pairs.length = n1 at *
      generalize (ts.getD j noTr).cuts.length = n2 at *
      generalize (ts.getD j noTr).buf.length = n4 at *
      generalize hk3 : mkTs n (ts.getD j noTr).kids = n3 at *
      have HK3 : Hid _ := hk3
      clear hk3
      have hp0 : 0 ≤ k + (fo j : Int) := by omega
      have hp1 : k + (fo j : Int) + 1 + 2 * n1 + n2 + n3 + 3 * n4 ≤ 1099511627776 := by omega
      clear hms
      have W1' : Hid _ := W1.out.mk M1.out
      go_wp2_with fail
      refine (markPairS_w yp n1 (k + (fo j : Nat) + 1) _ lo hi W1'.out (by omega) (by omega)).mono ?_
      rintro e v1 ⟨rfl, mk1⟩
      have M2 : Hid (Mk lo hi w v1) := M1.out.trans mk1
      obtain ⟨d1, d2, d3, d4⟩ := LK.out v1 M2.out
      have W2' : Hid _ := W2.out.mk M2.out
      clear mk1 c0 c1 c2 c3 c4 f0 M1 W1'
      go_wp2_with fail
      refine (markIntS_w yc n2 (k + (fo j : Nat) + 1 + 2 * (n1 : Int)) _ lo hi W2'.out (by omega) (by omega)).mono ?_
      rintro e v2 ⟨rfl, mk2⟩
      have M3 : Hid (Mk lo hi w v2) := M2.out.trans mk2
      clear d1 d2 d3 d4
      obtain ⟨d1, d2, d3, d4⟩ := LK.out v2 M3.out
      have W4' : Hid (WkTrees n v2 lo hi yk (ts.getD j noTr).kids) := by
        obtain ⟨ys, h1, h2, h3⟩ := W4.out
        exact ⟨ys, h1, h2.mk M3.out, fun i hi => (h3 i hi).mk M3.out⟩
      have HC : Hid (Calls Try.prog 60 #[yk, .int .i64 (k + (fo j : Nat) + 1 + 2 * (n1 : Int) + (n2 : Int))] v2 fun e w' => e = .returned (.int .i64 (k + (fo j : Nat) + 1 + 2 * (n1 : Int) + (n2 : Int) + (n3 : Nat))) ∧ Mk lo hi v2 w') := by
        have := HH.out yk (ts.getD j noTr).kids (k + (fo j : Nat) + 1 + 2 * (n1 : Int) + (n2 : Int)) v2 lo hi W4'.out (by omega) (by rw [HK3.out]; omega)
        rw [HK3.out] at this
        exact this
      clear mk2 M2 W2'
      go_wp2_with fail
      refine HC.out.mono ?_
      rintro e v3 ⟨rfl, mk3⟩
      have M4 : Hid (Mk lo hi w v3) := M3.out.trans mk3
      clear d1 d2 d3 d4
      obtain ⟨d1, d2, d3, d4⟩ := LK.out v3 M4.out
      have W3' : Hid _ := W3.out.mk M4.out
      clear mk3 M3 W4' HC
      go_wp2_with fail
      refine (markMsgS_w yb n4 (k + (fo j : Nat) + 1 + 2 * (n1 : Int) + (n2 : Int) + (n3 : Int)) _ lo hi W3'.out (by omega) (by omega)).mono ?_
      rintro e v4 ⟨rfl, mk4⟩
      have M5 : Hid (Mk lo hi w v4) := M4.out.trans mk4
      clear mk4 d1 d2 d3 d4 M4 W3'
      go_wp2
      go_roundw
      case rel => exact ⟨j + 1, by omega, by go_num, by rw [MSE.out]; congr 1; omega, M5⟩
      case measure => simp [intOf]; omega
    · have hjl : j = m := by omega
      subst hjl
      have E : Hid (fo j = TOT) := MF
      go_wp2
      go_ret
      exact ⟨ret_int (by rw [E.out]), MK.out⟩

theorem markTS_any : ∀ n, MarkTS n
  | 0 => markTS_of 0 (fun _ h => by cases h)
  | n + 1 => markTS_of (n + 1) (fun n' h => by cases h; exact markTS_any n)

set_option maxHeartbeats 1000000 in
theorem markTree_w (n : Nat) (x : TV) (T : Tr) (k : Int) (w : World) (lo hi : Nat) (ht : WkTree n w lo hi x T) (hhi : hi ≤ w.heap.size) (hk0 : 0 ≤ k) (hk1 : k + (mkT n T : Nat) ≤ 1099511627776) :
    Calls Try.prog 23 #[x.val, .int .i64 k] w fun e w' => e = .returned (.int .i64 (k + (mkT n T : Nat))) ∧ Mk lo hi w w' := by
  cases n with
  | zero => exact ht.elim
  | succ n =>
  obtain ⟨lf, p, c, kk, b⟩ := x
  obtain ⟨w1, w2, w3, w4⟩ := ht
  have W1 : Hid (IntRow w lo hi p T.pairs.length 2) := w1
  have W2 : Hid (IntRow w lo hi c T.cuts.length 1) := w2
  have W3 : Hid (IntRow w lo hi b T.buf.length 3) := w3
  have W4 : Hid (WkTrees n w lo hi kk T.kids) := w4
  have hme : mkT (n + 1) T = 2 * T.pairs.length + T.cuts.length + mkTs n T.kids + 3 * T.buf.length := rfl
  have MA : Hid (Mk lo hi w (w.alloc (.cells #[.bool lf, p, c, kk, b] 29))) := (Mk.refl _ _ _).alloc _
  have BX : Hid (w.heap.size < (w.alloc (.cells #[.bool lf, p, c, kk, b] 29)).heap.size) := by
    show _ < _
    rw [World.size_alloc]; omega
  have SA : Hid (∀ u, Mk lo hi (w.alloc (.cells #[.bool lf, p, c, kk, b] 29)) u → ∀ j, u.cell? ⟨w.heap.size, j, none⟩ = #[Value.bool lf, p, c, kk, b][j]?) := fun u hu j => by
    have h1 : u.heap[w.heap.size]? = some (.cells #[.bool lf, p, c, kk, b] 29 (0, 0)) :=
      (hu.chg.block w.heap.size BX.out (fun h => by omega)).trans (heap_alloc_new w _)
    exact cell_of_row u w.heap.size j _ 29 (0, 0) h1
  rw [hme] at hk1 ⊢
  clear w1 w2 w3 w4 hme
  have W1' : Hid _ := W1.out.mk MA.out
  have k0 := SA.out _ (Mk.refl _ _ _)
  generalize hk3 : mkTs n T.kids = n3 at *
  have HK3 : Hid _ := hk3
  clear hk3
  generalize T.pairs.length = n1 at *
  generalize T.cuts.length = n2 at *
  generalize T.buf.length = n4 at *
  have hp1 : k + 2 * n1 + n2 + n3 + 3 * n4 ≤ 1099511627776 := by omega
  have FE : Hid (k + 2 * (n1 : Int) + (n2 : Int) + (n3 : Int) + 3 * (n4 : Int) = k + ((2 * n1 + n2 + n3 + 3 * n4 : Nat) : Int)) := by
    show _ = _
    omega
  show Calls Try.prog 23 #[.agg #[.bool lf, p, c, kk, b], .int .i64 k] w _
  go_enter Try.func23, Try.ntmps23
  go_wp2_with fail
  refine (markPairS_w p n1 k _ lo hi W1'.out (by omega) (by omega)).mono ?_
  rintro e v1 ⟨rfl, mk1⟩
  have N1 : Hid _ := mk1
  have M1 : Hid (Mk lo hi w v1) := MA.out.trans mk1
  have W2' : Hid _ := W2.out.mk M1.out
  clear k0 mk1 W1'
  have k0 := SA.out _ N1.out
  go_wp2_with fail
  refine (markIntS_w c n2 (k + 2 * (n1 : Int)) _ lo hi W2'.out (by omega) (by omega)).mono ?_
  rintro e v2 ⟨rfl, mk2⟩
  have N2 : Hid _ := N1.out.trans mk2
  have M2 : Hid (Mk lo hi w v2) := MA.out.trans N2.out
  have W4' : Hid (WkTrees n v2 lo hi kk T.kids) := by
    obtain ⟨ys, h1, h2, h3⟩ := W4.out
    exact ⟨ys, h1, h2.mk M2.out, fun i hi => (h3 i hi).mk M2.out⟩
  have HC : Hid (Calls Try.prog 60 #[kk, .int .i64 (k + 2 * (n1 : Int) + (n2 : Int))] v2 fun e w' => e = .returned (.int .i64 (k + 2 * (n1 : Int) + (n2 : Int) + (n3 : Nat))) ∧ Mk lo hi v2 w') := by
    have := markTS_any n kk T.kids (k + 2 * (n1 : Int) + (n2 : Int)) v2 lo hi W4'.out (by omega) (by rw [HK3.out]; omega)
    rw [HK3.out] at this
    exact this
  clear k0 mk2 W2' N1 M1
  have k0 := SA.out _ N2.out
  go_wp2_with fail
  refine HC.out.mono ?_
  rintro e v3 ⟨rfl, mk3⟩
  have N3 : Hid _ := N2.out.trans mk3
  have M3 : Hid (Mk lo hi w v3) := MA.out.trans N3.out
  have W3' : Hid _ := W3.out.mk M3.out
  clear k0 mk3 W4' HC N2 M2
  have k0 := SA.out _ N3.out
  go_wp2_with fail
  refine (markMsgS_w b n4 (k + 2 * (n1 : Int) + (n2 : Int) + (n3 : Int)) _ lo hi W3'.out (by omega) (by omega)).mono ?_
  rintro e v4 ⟨rfl, mk4⟩
  have M4 : Hid (Mk lo hi w v4) := M3.out.trans mk4
  clear k0 mk4 W3' N3 M3
  go_wp2
  go_ret
  exact ⟨ret_int FE.out, M4.out⟩

/-- A TREE OF ONE'S OWN stands within the bounds. -/
theorem IntRow.of_owns {w : World} {base e size n : Nat} {v : Value} {xs : List Value} (h : w.ownsRow base e size v n xs) (he : e ≠ 29) (hx : ∀ y ∈ xs, ∃ x, y = .int .i64 x) : IntRow w base w.heap.size v n size := by
  have h0 := h
  obtain ⟨hl, h | ⟨g, cap, cur, rfl, hg, hh, hn, hcap, hsz, htake⟩⟩ := h
  · obtain ⟨rfl, rfl⟩ := h
    exact ⟨none, 0, 0, e, rfl, Nat.le_refl _, Nat.zero_le _, fun h => absurd h (Nat.lt_irrefl _)⟩
  · refine ⟨some ⟨g, 0, none⟩, g, cap, e, rfl, hn, hcap, fun _ => ⟨rfl, hg, (Array.getElem?_eq_some_iff.1 hh).1, he, cur, hh, fun j hj => ?_⟩⟩
    have h1 := h0.cellAt j hj
    rw [cell_of_row w g j cur e (0, 0) hh] at h1
    have h2 : j < xs.length := by omega
    rw [List.getElem?_eq_getElem h2] at h1
    obtain ⟨x, hx⟩ := hx _ (List.getElem_mem h2)
    exact ⟨x, by rw [h1, hx]⟩
theorem TreeRow.of_owns {w : World} {base : Nat} {v : Value} {ys : List TV} (h : w.ownsRow base 29 5 v ys.length (flatT ys)) : TreeRow w base w.heap.size v ys := by
  have h0 := h
  obtain ⟨hl, h | ⟨g, cap, cur, rfl, hg, hh, hn, hcap, hsz, htake⟩⟩ := h
  · obtain ⟨h1, h2⟩ := h
    exact ⟨none, 0, 0, by rw [h1, h2], by omega, Nat.zero_le _, fun h => by omega⟩
  · refine ⟨some ⟨g, 0, none⟩, g, cap, rfl, hn, hcap, fun _ => ⟨rfl, hg, (Array.getElem?_eq_some_iff.1 hh).1, cur, hh, fun i hi => ?_⟩⟩
    have at' := flatT_at ys i hi
    have c : ∀ j, j < ys.length * 5 → cur[j]? = (flatT ys)[j]? := fun j hj => by
      have h1 := h0.cellAt j hj
      rw [cell_of_row w g j cur 29 (0, 0) hh] at h1
      exact h1
    exact ⟨⟨_, (c _ (by omega)).trans at'.1⟩, (c _ (by omega)).trans at'.2.1, (c _ (by omega)).trans at'.2.2.1, (c _ (by omega)).trans at'.2.2.2.1, (c _ (by omega)).trans at'.2.2.2.2⟩
theorem flatI_int (l : List Int) : ∀ y ∈ flatI l, ∃ x, y = .int .i64 x := fun y hy => by
  obtain ⟨x, _, rfl⟩ := List.mem_map.1 hy
  exact ⟨x, rfl⟩
theorem flatP_int (l : List (Int × Int)) : ∀ y ∈ flatP l, ∃ x, y = .int .i64 x := fun y hy => by
  obtain ⟨p, _, h⟩ := List.mem_flatMap.1 hy
  simp at h
  rcases h with rfl | rfl <;> exact ⟨_, rfl⟩
theorem flatM_int (l : ML) : ∀ y ∈ flatM l, ∃ x, y = .int .i64 x := fun y hy => by
  obtain ⟨p, _, h⟩ := List.mem_flatMap.1 hy
  simp at h
  rcases h with rfl | rfl | rfl <;> exact ⟨_, rfl⟩
theorem WkTree.of_own : ∀ {n : Nat} {w : World} {base : Nat} {x : TV} {T : Tr}, TreeOwn n w base x T → WkTree n w base w.heap.size x T
  | 0, _, _, _, _, h => h
  | n + 1, w, base, x, T, h => by
    obtain ⟨_, h2, h3, h4, xs, h5, h6, h7⟩ := h
    exact ⟨IntRow.of_owns h2 (by decide) (flatP_int _), IntRow.of_owns h3 (by decide) (flatI_int _), IntRow.of_owns h4 (by decide) (flatM_int _), xs, h5, TreeRow.of_owns h6, fun i hi => WkTree.of_own (h7 i hi)⟩

end Go.Proofs.Ytmpiijphpnjlnaa

namespace Go.Proofs.Ytmpiijphpnjlnaa
open Go.RowKit

set_option maxHeartbeats 400000 in
theorem szIntS_any (a : Option Addr) (n cap : Nat) (left : Int) (hn : n ≤ maxLen) (hl : 0 ≤ left) (hl2 : left ≤ 1048576) (w : World) :
    Calls Try.prog 47 #[.slice a n cap, .int .i64 left] w fun e w' => e = .returned (.int .i64 (if (n : Int) ≤ left then left - n else -1)) ∧ w' = w := by
  unfold maxLen at hn
  by_cases h : (n : Int) ≤ left
  · go_enter Try.func47, Try.ntmps47
    go_wp2
    go_ret
    exact ⟨rfl, rfl⟩
  · go_enter Try.func47, Try.ntmps47
    go_wp2
    go_ret
    exact ⟨rfl, rfl⟩

/-- WHAT szTree, szTreeS DO TO TREES OF A HEIGHT OF AT MOST n. -/
def SzTree (n : Nat) : Prop := ∀ (x : TV) (T : Tr) (left : Int) (w : World), TreeAt n w x T → 0 ≤ left → left ≤ 1048576 →
    Calls Try.prog 17 #[x.val, .int .i64 left] w fun e w' => e = .returned (.int .i64 (leftOf left (sizeT n T))) ∧ Below w.heap.size w w'
def SzTreeS (n : Nat) : Prop := ∀ (v : Value) (ts : List Tr) (left : Int) (w : World), TreesAt n w v ts → 0 ≤ left → left ≤ 1048576 →
    Calls Try.prog 48 #[v, .int .i64 left] w fun e w' => e = .returned (.int .i64 (leftOf left (sizeTs n ts))) ∧ Below w.heap.size w w'

theorem leftOf_yes {left : Int} {n : Nat} (h : (n : Int) ≤ left) : leftOf left n = left - n := if_pos h
theorem leftOf_no {left : Int} {n : Nat} (h : ¬ (n : Int) ≤ left) : leftOf left n = -1 := if_neg h

set_option maxHeartbeats 1000000 in
theorem szTreeS_of {n : Nat} (H : SzTree n) : SzTreeS n := by
  intro v ts left w hts hl0 hl1
  obtain ⟨xs, hxl, hrow, hk⟩ := hts
  obtain ⟨a, b, off, cap, rfl, hcap, hmax, ha, c0, c1, c2, c3, c4⟩ := hrow.trees
  unfold maxLen at hmax
  have XL : Hid (xs.length = ts.length) := hxl
  clear hxl
  by_cases hl : (xs.length : Int) ≤ left
  · go_enter Try.func48, Try.ntmps48
    go_wp2
    go_loopw [1, 5] (fun lf i wr => ∃ (k : Nat) (y : Int), k ≤ xs.length ∧ i = .int .i64 k ∧ lf = .int .i64 y ∧ 0 ≤ y ∧ y ≤ 1048576 ∧ Hid (y = left - xs.length - sumTo n ts k) ∧ Below w.heap.size w wr)
      (fun _ i _ => xs.length - (intOf i).toNat)
    case atStart => exact ⟨0, left - xs.length, Nat.zero_le _, rfl, rfl, by omega, by omega, by show _ = _; simp [sumTo], Below.refl _ _⟩
    case round =>
      obtain ⟨k, y, hkl, rfl, rfl, hy0, hy1, YE, hb⟩ := hrel
      by_cases hlt : k < xs.length
      · have hal := ha (by omega)
        subst hal
        have d0 := (hb.cell (by exact cell_lt (c0 k hlt))).trans (c0 k hlt)
        have d1 := (hb.cell (by exact cell_lt (c1 k hlt))).trans (c1 k hlt)
        have d2 := (hb.cell (by exact cell_lt (c2 k hlt))).trans (c2 k hlt)
        have d3 := (hb.cell (by exact cell_lt (c3 k hlt))).trans (c3 k hlt)
        have d4 := (hb.cell (by exact cell_lt (c4 k hlt))).trans (c4 k hlt)
        have T0 : Hid (TreeAt n wr (tvAt xs k) (ts.getD k noTr)) := (hk k hlt).below hb
        have S1 : Hid (sumTo n ts (k + 1) = sumTo n ts k + sizeT n (ts.getD k noTr)) := sumTo_succ n ts k (by have := XL.out; omega)
        have S2 : Hid (sumTo n ts (k + 1) ≤ (ts.map (sizeT n)).sum) := sumTo_le n ts (k + 1)
        clear c0 c1 c2 c3 c4 hk hrow ha
        by_cases hfit : (sizeT n (ts.getD k noTr) : Int) ≤ y
        · go_wp2_with fail
          refine (H (tvAt xs k) _ _ _ T0.out hy0 hy1).mono ?_
          rintro e w1 ⟨he, hb1⟩
          rw [leftOf_yes hfit] at he
          subst he
          have Y2 : Hid (y - (sizeT n (ts.getD k noTr) : Int) = left - xs.length - sumTo n ts (k + 1)) := by
            have e1 := YE.out; have e2 := S1.out
            show _ = _
            omega
          clear YE S1 S2 T0 d0 d1 d2 d3 d4
          generalize sizeT n (ts.getD k noTr) = s at *
          go_wp2
          go_roundw
          case rel => exact ⟨k + 1, _, by omega, by go_num, rfl, by omega, by omega, Y2, Below.and hb hb1⟩
          case measure => simp [intOf]; omega
        · go_wp2_with fail
          refine (H (tvAt xs k) _ _ _ T0.out hy0 hy1).mono ?_
          rintro e w1 ⟨he, hb1⟩
          rw [leftOf_no (by omega)] at he
          subst he
          have Y2 : Hid (leftOf left (sizeTs n ts) = -1) := by
            have e1 := YE.out; have e2 := S1.out; have e3 := S2.out; have e4 := XL.out
            refine leftOf_no ?_
            unfold sizeTs
            omega
          clear YE S1 S2 T0 d0 d1 d2 d3 d4
          generalize sizeT n (ts.getD k noTr) = s at *
          go_wp2
          go_ret
          exact ⟨ret_int Y2.out.symm, Below.and hb hb1⟩
      · have hkk : k = xs.length := by omega
        subst hkk
        have Y2 : Hid (leftOf left (sizeTs n ts) = y) := by
          have e1 := YE.out
          rw [XL.out, sumTo_all] at e1
          show _ = _
          rw [leftOf_yes (by have := XL.out; unfold sizeTs; omega)]
          unfold sizeTs
          omega
        clear c0 c1 c2 c3 c4 hk hrow ha YE
        go_wp2
        go_ret
        exact ⟨ret_int Y2.out.symm, hb⟩
  · have Y2 : Hid (leftOf left (sizeTs n ts) = -1) := leftOf_no (by have := XL.out; unfold sizeTs; omega)
    go_enter Try.func48, Try.ntmps48
    go_wp2
    go_ret
    exact ⟨ret_int Y2.out.symm, Below.refl _ _⟩

set_option maxHeartbeats 1000000 in
theorem szTree_of {n : Nat} (H : SzTreeS n) : SzTree (n + 1) := by
  intro x T left w ht hl0 hl1
  obtain ⟨lf, p, c, k, b⟩ := x
  obtain ⟨_, hp, hc, hb, hk⟩ := ht.parts
  simp only at hp hc hb hk
  obtain ⟨a1, cap1, rfl, m1⟩ := hp.len
  obtain ⟨a2, cap2, rfl, m2⟩ := hc.len
  obtain ⟨a4, cap4, rfl, m4⟩ := hb.len
  have KK : Hid (TreesAt n w k T.kids) := hk
  have hS : Hid (sizeT (n + 1) T = T.pairs.length + (T.cuts.length + (sizeTs n T.kids + T.buf.length))) := rfl
  clear hp hc hb hk ht
  show Calls Try.prog 17 #[.agg #[.bool lf, .slice a1 T.pairs.length cap1, .slice a2 T.cuts.length cap2, k, .slice a4 T.buf.length cap4], .int .i64 left] w _
  by_cases f1 : (T.pairs.length : Int) ≤ left
  · by_cases f2 : (T.cuts.length : Int) ≤ left - T.pairs.length
    · by_cases f3 : (sizeTs n T.kids : Int) ≤ left - T.pairs.length - T.cuts.length
      · by_cases f4 : (T.buf.length : Int) ≤ left - T.pairs.length - T.cuts.length - sizeTs n T.kids
        all_goals
          go_enter Try.func17, Try.ntmps17
          go_wp2_with fail
          refine (szPairS_any _ _ _ _ m1 (by omega) (by omega) _).mono ?_
          rintro e w1 ⟨rfl, rfl⟩
          go_wp2_with fail
          refine (szIntS_any _ _ _ _ m2 (by omega) (by omega) _).mono ?_
          rintro e w1 ⟨rfl, rfl⟩
          go_wp2_with fail
          refine (H _ T.kids _ _ (KK.out.below ((Below.refl _ _).alloc (Nat.le_refl _) _)) (by omega) (by omega)).mono ?_
          rintro e w1 ⟨he, hb1⟩
          rw [leftOf_yes f3] at he
          subst he
          obtain ⟨hc, hf⟩ := bcell hb1
          have BB : Hid (Below w.heap.size w w1) := ((Below.refl _ _).alloc (Nat.le_refl _) _).trans (hb1.mono (by simp))
          clear hb1
          generalize sizeTs n T.kids = s at *
          go_wp2_with fail
          refine (szMsgS_any _ _ _ _ m4 (by omega) (by omega) _).mono ?_
          rintro e w1 ⟨rfl, rfl⟩
          go_wp2
          go_ret
          refine ⟨ret_int ?_, BB.out⟩
          rw [hS.out]
          unfold leftOf
          split <;> omega
      · go_enter Try.func17, Try.ntmps17
        go_wp2_with fail
        refine (szPairS_any _ _ _ _ m1 (by omega) (by omega) _).mono ?_
        rintro e w1 ⟨rfl, rfl⟩
        go_wp2_with fail
        refine (szIntS_any _ _ _ _ m2 (by omega) (by omega) _).mono ?_
        rintro e w1 ⟨rfl, rfl⟩
        go_wp2_with fail
        refine (H _ T.kids _ _ (KK.out.below ((Below.refl _ _).alloc (Nat.le_refl _) _)) (by omega) (by omega)).mono ?_
        rintro e w1 ⟨he, hb1⟩
        rw [leftOf_no (by omega)] at he
        subst he
        have BB : Hid (Below w.heap.size w w1) := ((Below.refl _ _).alloc (Nat.le_refl _) _).trans (hb1.mono (by simp))
        clear hb1
        generalize sizeTs n T.kids = s at *
        go_wp2
        go_ret
        refine ⟨ret_int ?_, BB.out⟩
        rw [hS.out]
        unfold leftOf
        split <;> omega
    · go_enter Try.func17, Try.ntmps17
      go_wp2_with fail
      refine (szPairS_any _ _ _ _ m1 (by omega) (by omega) _).mono ?_
      rintro e w1 ⟨rfl, rfl⟩
      go_wp2_with fail
      refine (szIntS_any _ _ _ _ m2 (by omega) (by omega) _).mono ?_
      rintro e w1 ⟨rfl, rfl⟩
      go_wp2
      go_ret
      refine ⟨ret_int ?_, (Below.refl _ _).alloc (Nat.le_refl _) _⟩
      rw [hS.out]
      unfold leftOf
      split <;> omega
  · go_enter Try.func17, Try.ntmps17
    go_wp2_with fail
    refine (szPairS_any _ _ _ _ m1 (by omega) (by omega) _).mono ?_
    rintro e w1 ⟨rfl, rfl⟩
    go_wp2
    go_ret
    refine ⟨ret_int ?_, (Below.refl _ _).alloc (Nat.le_refl _) _⟩
    rw [hS.out]
    unfold leftOf
    split <;> omega

theorem szTree_any : ∀ n, SzTree n
  | 0 => fun _ _ _ _ h => h.elim
  | n + 1 => szTree_of (szTreeS_of (szTree_any n))

end Go.Proofs.Ytmpiijphpnjlnaa

namespace Go.Proofs.Ytmpiijphpnjlnaa
open Go.RowKit

theorem il_ext {l1 l2 : List Int} (hl : l1.length = l2.length) (h : ∀ i, i < l1.length → iAt l1 i = iAt l2 i) : l1 = l2 := by
  apply List.ext_getElem hl
  intro i h1 h2
  have := h i h1
  simpa [iAt, List.getD, h1, h2] using this

set_option maxHeartbeats 1000000 in
theorem eqIntS_any (v1 v2 : Value) (l1 l2 : List Int) (w : World) (h1 : Row w v1 l1.length (flatI l1)) (h2 : Row w v2 l2.length (flatI l2)) :
    Calls Try.prog 57 #[v1, v2] w fun e w' => e = .returned (.bool (decide (l1 = l2))) ∧ Below w.heap.size w w' := by
  obtain ⟨a, b, off, cap, rfl, hcap, hmax, ha, hk⟩ := h1.ints
  obtain ⟨a2, b2, off2, cap2, rfl, hcap2, hmax2, ha2, hk2⟩ := h2.ints
  unfold maxLen at hmax hmax2
  by_cases hl : l1.length = l2.length
  · have hne : ((l1.length : Int) != (l2.length : Int)) = false := by rw [bne_eq_false_iff_eq]; omega
    have HL : Hid (l1.length = l2.length) := hl
    have hl2 : l1.length ≤ l2.length := by omega
    clear hl
    go_enter Try.func57, Try.ntmps57
    go_wp2
    go_loopw [5] (fun i wr => ∃ k : Nat, k ≤ l1.length ∧ i = .int .i64 k ∧ Hid (∀ i, i < k → iAt l1 i = iAt l2 i) ∧ Below w.heap.size w wr)
      (fun i _ => l1.length - (intOf i).toNat)
    case atStart => exact ⟨0, Nat.zero_le _, rfl, fun i hi => absurd hi (Nat.not_lt_zero _), Below.refl _ _⟩
    case round =>
      obtain ⟨k, hkl, rfl, ALL, hb⟩ := hrel
      by_cases hlt : k < l1.length
      · have hal := ha (by omega)
        subst hal
        have hal2 := ha2 (by omega)
        subst hal2
        have hlt2 : k < l2.length := by omega
        have d0 := (hb.cell (by exact cell_lt (hk k hlt))).trans (hk k hlt)
        have d1 := (hb.cell (by exact cell_lt (hk2 k hlt2))).trans (hk2 k hlt2)
        clear hk ha hk2 ha2
        by_cases hq : iAt l1 k = iAt l2 k
        · have hq' : (iAt l1 k != iAt l2 k) = false := by rw [bne_eq_false_iff_eq]; exact hq
          have EQ : Hid (iAt l1 k = iAt l2 k) := hq
          clear hq
          go_wp2_with fail
          go_quiet (fail)
          go_wp2
          go_roundw
          case rel => exact ⟨k + 1, by omega, by go_num, fun i hi => if h : i < k then ALL.out i h else by rw [show i = k by omega]; exact EQ.out, below_drewN hb _⟩
          case measure => simp [intOf]; omega
        · have hq' : (iAt l1 k != iAt l2 k) = true := by rw [bne_iff_ne]; exact hq
          have NE : Hid (decide (l1 = l2) = false) := decide_eq_false (fun e => hq (by rw [e]))
          clear hq
          go_wp2_with fail
          go_quiet (fail)
          go_wp2
          go_ret
          exact ⟨ret_bool NE.out.symm, below_drewN hb _⟩
      · go_wp2
        go_ret
        refine ⟨ret_bool ?_, hb⟩
        symm
        rw [decide_eq_true_iff]
        exact il_ext HL.out (fun i hi => ALL.out i (by omega))
  · have hne : ((l1.length : Int) != (l2.length : Int)) = true := by rw [bne_iff_ne]; omega
    go_enter Try.func57, Try.ntmps57
    go_wp2
    go_ret
    refine ⟨ret_bool ?_, Below.refl _ _⟩
    symm
    rw [decide_eq_false_iff_not]
    intro h; exact hl (by rw [h])

/-- WHAT eqTree, eqTreeS SAY OF ONE TREE IN TWO PLACES. -/
def EqTree (n : Nat) : Prop := ∀ (x y : TV) (T : Tr) (w : World), TreeAt n w x T → TreeAt n w y T →
    Calls Try.prog 22 #[x.val, y.val] w fun e w' => e = .returned (.bool true) ∧ Below w.heap.size w w'
def EqTreeS (n : Nat) : Prop := ∀ (v u : Value) (ts : List Tr) (w : World), TreesAt n w v ts → TreesAt n w u ts →
    Calls Try.prog 58 #[v, u] w fun e w' => e = .returned (.bool true) ∧ Below w.heap.size w w'

set_option maxHeartbeats 2000000 in
theorem eqTreeS_of {n : Nat} (H : EqTree n) : EqTreeS n := by
  intro v u ts w hv hu
  obtain ⟨xs, hxl, hrow, hk⟩ := hv
  obtain ⟨ys, hyl, hrow2, hk2⟩ := hu
  obtain ⟨a, b, off, cap, rfl, hcap, hmax, ha, c0, c1, c2, c3, c4⟩ := hrow.trees
  obtain ⟨a2, b2, off2, cap2, rfl, hcap2, hmax2, ha2, g0, g1, g2, g3, g4⟩ := hrow2.trees
  unfold maxLen at hmax hmax2
  have hl2 : xs.length ≤ ys.length := by omega
  have hne : ((xs.length : Int) != (ys.length : Int)) = false := by rw [bne_eq_false_iff_eq]; omega
  clear hxl hyl
  go_enter Try.func58, Try.ntmps58
  go_wp2
  go_loopw [5] (fun i wr => ∃ k : Nat, k ≤ xs.length ∧ i = .int .i64 k ∧ Below w.heap.size w wr)
    (fun i _ => xs.length - (intOf i).toNat)
  case atStart => exact ⟨0, Nat.zero_le _, rfl, Below.refl _ _⟩
  case round =>
    obtain ⟨k, hkl, rfl, hb⟩ := hrel
    by_cases hlt : k < xs.length
    · have hal := ha (by omega)
      subst hal
      have hal2 := ha2 (by omega)
      subst hal2
      have hlt2 : k < ys.length := by omega
      have d0 := (hb.cell (by exact cell_lt (c0 k hlt))).trans (c0 k hlt)
      have d1 := (hb.cell (by exact cell_lt (c1 k hlt))).trans (c1 k hlt)
      have d2 := (hb.cell (by exact cell_lt (c2 k hlt))).trans (c2 k hlt)
      have d3 := (hb.cell (by exact cell_lt (c3 k hlt))).trans (c3 k hlt)
      have d4 := (hb.cell (by exact cell_lt (c4 k hlt))).trans (c4 k hlt)
      have e0 := (hb.cell (by exact cell_lt (g0 k hlt2))).trans (g0 k hlt2)
      have e1 := (hb.cell (by exact cell_lt (g1 k hlt2))).trans (g1 k hlt2)
      have e2 := (hb.cell (by exact cell_lt (g2 k hlt2))).trans (g2 k hlt2)
      have e3 := (hb.cell (by exact cell_lt (g3 k hlt2))).trans (g3 k hlt2)
      have e4 := (hb.cell (by exact cell_lt (g4 k hlt2))).trans (g4 k hlt2)
      have T0 : Hid (TreeAt n wr.drew (tvAt xs k) (ts.getD k noTr)) := (hk k hlt).below hb.drew
      have T1 : Hid (TreeAt n wr.drew (tvAt ys k) (ts.getD k noTr)) := (hk2 k hlt2).below hb.drew
      clear c0 c1 c2 c3 c4 hk hrow ha g0 g1 g2 g3 g4 hk2 hrow2 ha2
      go_wp2_with fail
      go_region_with (go_at_call 22; refine (H (tvAt xs k) (tvAt ys k) _ _ T0.out T1.out).mono ?_; rintro e w1 ⟨rfl, hb1⟩)
      all_goals
        go_wp2
        go_roundw
        case rel => exact ⟨k + 1, by omega, by go_num, hb.drew.trans (hb1.mono hb.size)⟩
        case measure => simp [intOf]; omega
    · clear c0 c1 c2 c3 c4 hk hrow ha g0 g1 g2 g3 g4 hk2 hrow2 ha2
      go_wp2
      go_ret
      exact ⟨rfl, hb⟩

/-- TWO BLOCKS, one behind the other. -/
structure TwoAt (u : World) (B : Nat) (A Z : Array Value) : Prop where
  h0 : u.heap[B]? = some (.cells A 29 (0, 0))
  h1 : u.heap[B + 1]? = some (.cells Z 29 (0, 0))
theorem TwoAt.step {u w' : World} {B : Nat} {A Z : Array Value} (h : TwoAt u B A Z) (hb : Below u.heap.size u w') : TwoAt w' B A Z := by
  have hs := (Array.getElem?_eq_some_iff.1 h.h1).1
  exact ⟨(hb.block _ (by omega)).trans h.h0, (hb.block _ (by omega)).trans h.h1⟩
theorem TwoAt.cells {u : World} {B : Nat} {A Z : Array Value} (h : TwoAt u B A Z) : (∀ j, u.cell? ⟨B, j, none⟩ = A[j]?) ∧ (∀ j, u.cell? ⟨B + 1, j, none⟩ = Z[j]?) :=
  ⟨fun j => cell_of_row u B j A 29 (0, 0) h.h0, fun j => cell_of_row u (B + 1) j Z 29 (0, 0) h.h1⟩
theorem TwoAt.start (w : World) (A Z : Array Value) : TwoAt ((w.alloc (.cells A 29)).alloc (.cells Z 29)) w.heap.size A Z := by
  have e : ∀ (x : World) (o : Obj), (x.alloc o).heap.size = x.heap.size + 1 := fun x o => by simp
  have k1 : ∀ (x : World) (o : Obj) (g : Nat), g < x.heap.size → (x.alloc o).heap[g]? = x.heap[g]? := fun x o g hg => ((Below.refl x.heap.size x).alloc (Nat.le_refl _) o).block g hg
  refine ⟨?_, ?_⟩
  · rw [k1 _ _ _ (by rw [e]; omega)]; exact heap_alloc_new w _
  · rw [← e w (.cells A 29)]; exact heap_alloc_new _ _

set_option maxHeartbeats 2000000 in
theorem eqTree_of {n : Nat} (H : EqTreeS n) : EqTree (n + 1) := by
  intro x y T w ht hu
  obtain ⟨lf, p, c, k, b⟩ := x
  obtain ⟨lf2, p2, c2, k2, b2⟩ := y
  obtain ⟨hlf, hp, hc, hb, hk⟩ := ht.parts
  obtain ⟨hlf2, hp2, hc2, hb2, hk2⟩ := hu.parts
  simp only at hlf hp hc hb hk hlf2 hp2 hc2 hb2 hk2
  subst hlf
  subst hlf2
  have R1 : Hid (Row w p T.pairs.length (flatP T.pairs)) := hp
  have R2 : Hid (Row w c T.cuts.length (flatI T.cuts)) := hc
  have R3 : Hid (TreesAt n w k T.kids) := hk
  have R4 : Hid (Row w b T.buf.length (flatM T.buf)) := hb
  have Q1 : Hid (Row w p2 T.pairs.length (flatP T.pairs)) := hp2
  have Q2 : Hid (Row w c2 T.cuts.length (flatI T.cuts)) := hc2
  have Q3 : Hid (TreesAt n w k2 T.kids) := hk2
  have Q4 : Hid (Row w b2 T.buf.length (flatM T.buf)) := hb2
  clear hp hc hb hk ht hp2 hc2 hb2 hk2 hu
  have hlf : (T.leaf != T.leaf) = false := by simp
  show Calls Try.prog 22 #[.agg #[.bool T.leaf, p, c, k, b], .agg #[.bool T.leaf, p2, c2, k2, b2]] w _
  have B0 : Hid (Below w.heap.size w ((w.alloc (.cells #[.bool T.leaf, p, c, k, b] 29)).alloc (.cells #[.bool T.leaf, p2, c2, k2, b2] 29))) := ((Below.refl _ _).alloc (Nat.le_refl _) _).alloc (by simp) _
  have S0 : Hid (TwoAt _ w.heap.size _ _) := TwoAt.start w #[.bool T.leaf, p, c, k, b] #[.bool T.leaf, p2, c2, k2, b2]
  go_enter Try.func22, Try.ntmps22
  go_wp2_with fail
  refine (eqPairS_any _ _ _ _ _ (R1.out.below B0.out) (Q1.out.below B0.out)).mono ?_
  rintro e w1 ⟨he, hb1⟩
  rw [decide_eq_true rfl] at he
  subst he
  have B1 : Hid (Below w.heap.size w w1) := Below.and B0.out hb1
  have S1 : Hid (TwoAt w1 w.heap.size #[.bool T.leaf, p, c, k, b] #[.bool T.leaf, p2, c2, k2, b2]) := S0.out.step hb1
  obtain ⟨k0, k1⟩ := S1.out.cells
  clear B0 S0 hb1
  go_wp2_with fail
  refine (eqIntS_any _ _ _ _ _ (R2.out.below B1.out) (Q2.out.below B1.out)).mono ?_
  rintro e w2 ⟨he, hb2⟩
  rw [decide_eq_true rfl] at he
  subst he
  have B2 : Hid (Below w.heap.size w w2) := Below.and B1.out hb2
  have S2 : Hid (TwoAt w2 w.heap.size #[.bool T.leaf, p, c, k, b] #[.bool T.leaf, p2, c2, k2, b2]) := S1.out.step hb2
  clear B1 S1 hb2 k0 k1
  obtain ⟨k0, k1⟩ := S2.out.cells
  go_wp2_with fail
  refine (H _ _ T.kids _ (R3.out.below B2.out) (Q3.out.below B2.out)).mono ?_
  rintro e w3 ⟨rfl, hb3⟩
  have B3 : Hid (Below w.heap.size w w3) := Below.and B2.out hb3
  have S3 : Hid (TwoAt w3 w.heap.size #[.bool T.leaf, p, c, k, b] #[.bool T.leaf, p2, c2, k2, b2]) := S2.out.step hb3
  clear B2 S2 hb3 k0 k1
  obtain ⟨k0, k1⟩ := S3.out.cells
  go_wp2_with fail
  refine (eqMsgS_any _ _ _ _ _ (R4.out.below B3.out) (Q4.out.below B3.out)).mono ?_
  rintro e w4 ⟨he, hb4⟩
  rw [decide_eq_true rfl] at he
  subst he
  have B4 : Hid (Below w.heap.size w w4) := Below.and B3.out hb4
  clear B3 S3 hb4 k0 k1
  go_wp2
  go_ret
  exact ⟨rfl, B4.out⟩

theorem eqTree_any : ∀ n, EqTree n
  | 0 => fun _ _ _ _ h => h.elim
  | n + 1 => eqTree_of (eqTreeS_of (eqTree_any n))

end Go.Proofs.Ytmpiijphpnjlnaa
