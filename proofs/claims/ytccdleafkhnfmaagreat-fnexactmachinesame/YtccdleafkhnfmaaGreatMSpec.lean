/-
  Contracts of the model's TreeMap and TreeRange.
-/
import Derived.Test.YtccdleafkhnfmaaGreatMapMath
import Derived.Test.YtccdleafkhnfmaaGreatQTop
namespace Go.Proofs.YtccdleafkhnfmaaGreat
open Go.RowKit

/-- what has come of the first kids -/
def accF (m : Nat) (T : Tr) (j : Nat) : PL := T.pairs ++ ((T.kids.take j).map (mapF m)).flatten
theorem accF_succ (m : Nat) (T : Tr) (j : Nat) (h : j < T.kids.length) : accF m T (j + 1) = accF m T j ++ mapF m (kidT T j) := by
  rw [accF, accF, List.take_succ_eq_append_getElem h, List.map_append, List.flatten_append, ← List.append_assoc]
  simp [kidT, List.getD, h]
theorem accF_zero (m : Nat) (T : Tr) : accF m T 0 = T.pairs := by simp [accF]
theorem accF_full (m : Nat) (T : Tr) : allL (accF m T T.kids.length) T.buf = mapF (m + 1) T := by
  rw [accF, List.take_of_length_le (Nat.le_refl _), mapF]
theorem accF_length {m : Nat} {T : Tr} {lo hi : Int} (h : depthF (m + 1) T lo hi ≠ 0) : ∀ j, j ≤ T.kids.length → (accF m T j).length ≤ 4 + 1000 * j
  | 0, _ => by
    rw [accF_zero]
    cases hl : T.leaf
    · rw [(forkOk_parts (depthF_fork_ok h hl).1).1]; simp
    · have := (leafOk_parts (depthF_leaf_ok h hl)).2.1
      omega
  | j + 1, hj => by
    have ih := accF_length h j (by omega)
    rw [accF_succ m T j (by omega), List.length_append]
    cases hl : T.leaf
    · have := (mapF_is ((depthF_fork_ok h hl).2 j (by omega))).1.length
      omega
    · rw [(leafOk_parts (depthF_leaf_ok h hl)).2.2.1] at hj
      simp at hj
theorem kids_le {m : Nat} {T : Tr} {lo hi : Int} (h : depthF (m + 1) T lo hi ≠ 0) : T.kids.length ≤ 4 ∧ T.buf.length ≤ 6 ∧ T.pairs.length ≤ 4 := by
  cases hl : T.leaf
  · have := forkOk_parts (depthF_fork_ok h hl).1
    exact ⟨this.2.1.2, this.2.2.2.1, by rw [this.1]; simp⟩
  · have := leafOk_parts (depthF_leaf_ok h hl)
    exact ⟨by rw [this.2.2.1]; simp, by rw [this.2.2.2.1]; simp, this.2.1⟩
theorem kid_depth {m : Nat} {T : Tr} {lo hi : Int} (h : depthF (m + 1) T lo hi ≠ 0) {j : Nat} (hj : j < T.kids.length) : ∃ lo' hi', depthF m (kidT T j) lo' hi' ≠ 0 := by
  cases hl : T.leaf
  · exact ⟨_, _, (depthF_fork_ok h hl).2 j hj⟩
  · rw [(leafOk_parts (depthF_leaf_ok h hl)).2.2.1] at hj
    simp at hj

def MapIs (m : Nat) : Prop := ∀ (n : Nat) (x : TV) (T : Tr) (lo hi : Int) (w : World), TreeAt n w x T → depthF m T lo hi ≠ 0 →
  Calls Tryz.prog 25 #[x.val] w fun e w' => ∃ v', e = .returned v' ∧ w'.ownsRow w.heap.size 53 2 v' (mapF m T).length (flatP (mapF m T)) ∧ Below w.heap.size w w'

set_option maxRecDepth 100000 in
set_option maxHeartbeats 4000000 in
theorem map_of {m : Nat} (H : MapIs m) : MapIs (m + 1) := by
  intro n x T lo hi w ht hd
  cases n with
  | zero => exact ht.elim
  | succ n =>
  obtain ⟨_, hpr, _, hbuf, hkids⟩ := ht.parts
  obtain ⟨a1, a2, a3, a4, q1, q2, q3, q4, hx⟩ := ht.shape
  subst hx
  simp only at hpr hbuf hkids
  clear ht
  obtain ⟨i0, hi0, hz0, hz1, hz2⟩ := info_parts Tryz.info53
  obtain ⟨hk4, hb6, hp4⟩ := kids_le hd
  have E0 : Hid (((w.alloc (.cells #[.bool T.leaf, .slice a1 T.pairs.length q1, .slice a2 T.cuts.length q2, .slice a3 T.kids.length q3, .slice a4 T.buf.length q4] 37)).alloc (.cells #[] 53)).ownsRow (w.heap.size + 1) 53 2 (.slice (some ⟨w.heap.size + 1, 0, none⟩) 0 0) 0 []) := by
    have := empty_own (w.alloc (.cells #[.bool T.leaf, .slice a1 T.pairs.length q1, .slice a2 T.cuts.length q2, .slice a3 T.kids.length q3, .slice a4 T.buf.length q4] 37)) (w.heap.size + 1) 53 2 (by simp)
    rw [World.size_alloc] at this
    exact this
  have B0 : Hid (Below w.heap.size w ((w.alloc (.cells #[.bool T.leaf, .slice a1 T.pairs.length q1, .slice a2 T.cuts.length q2, .slice a3 T.kids.length q3, .slice a4 T.buf.length q4] 37)).alloc (.cells #[] 53))) := ((Below.refl _ _).alloc (Nat.le_refl _) _).alloc (by simp) _
  have S0 : Hid (OneAt ((w.alloc (.cells #[.bool T.leaf, .slice a1 T.pairs.length q1, .slice a2 T.cuts.length q2, .slice a3 T.kids.length q3, .slice a4 T.buf.length q4] 37)).alloc (.cells #[] 53)) w.heap.size #[.bool T.leaf, .slice a1 T.pairs.length q1, .slice a2 T.cuts.length q2, .slice a3 T.kids.length q3, .slice a4 T.buf.length q4]) :=
    (OneAt.start w _).step ((Below.refl _ _).alloc (Nat.le_refl _) _)
  have Z0 : Hid (w.heap.size + 1 ≤ ((w.alloc (.cells #[.bool T.leaf, .slice a1 T.pairs.length q1, .slice a2 T.cuts.length q2, .slice a3 T.kids.length q3, .slice a4 T.buf.length q4] 37)).alloc (.cells #[] 53)).heap.size) := by
    show _ ≤ _
    simp
  have AS : Hid (∀ j, j < T.kids.length → accF m T (j + 1) = accF m T j ++ mapF m (kidT T j)) := fun j hj => accF_succ m T j hj
  have AZ : Hid (accF m T 0 = T.pairs) := accF_zero m T
  have AF : Hid (allL (accF m T T.kids.length) T.buf = mapF (m + 1) T) := accF_full m T
  have AL : Hid (∀ j, j ≤ T.kids.length → (accF m T j).length ≤ 4004) := fun j hj => by have := accF_length hd j hj; omega
  have ML1 : Hid (∀ j, j < T.kids.length → (mapF m (kidT T j)).length ≤ 1000) := fun j hj => by
    obtain ⟨lo', hi', h⟩ := kid_depth hd hj
    exact (mapF_is h).1.length
  have RP : Hid (Row w (.slice a1 T.pairs.length q1) T.pairs.length (flatP T.pairs)) := hpr
  have RB : Hid (Row w (.slice a4 T.buf.length q4) T.buf.length (flatM T.buf)) := hbuf
  obtain ⟨xs, hxl, hrow, hk⟩ := hkids
  obtain ⟨a3', b3, off3, cap3, hv3, hcap3, hmax3, ha3, c0, c1, c2, c3, c4⟩ := hrow.trees
  simp only [Value.slice.injEq] at hv3
  obtain ⟨rfl, _, rfl⟩ := hv3
  unfold maxLen at hmax3
  have HP : Hid (∀ j, j < T.kids.length → ∀ w1, Below w.heap.size w w1 → Calls Tryz.prog 25 #[(tvAt xs j).val] w1 fun e w' => ∃ v', e = .returned v' ∧ w'.ownsRow w1.heap.size 53 2 v' (mapF m (kidT T j)).length (flatP (mapF m (kidT T j))) ∧ Below w1.heap.size w1 w') := fun j hj w1 hb => by
    obtain ⟨lo', hi', h⟩ := kid_depth hd hj
    exact H n (tvAt xs j) (kidT T j) lo' hi' w1 ((hk j (by omega)).below hb) h
  rw [← AF.out]
  clear hpr hbuf hrow hd hk AF
  rw [hxl] at *
  generalize hn3 : T.kids.length = n3 at *
  generalize accF m T = fo at *
  generalize T.leaf = tl at *
  generalize T.cuts.length = n2 at *
  show Calls Tryz.prog 25 #[.agg #[.bool tl, .slice a1 T.pairs.length q1, .slice a2 n2 q2, .slice a3 n3 q3, .slice a4 T.buf.length q4]] w _
  have HR0 : Hid (0 + T.pairs.length ≤ maxLen ∧ (0 + T.pairs.length) * 16 ≤ 140737488355328) := ⟨by unfold maxLen; omega, by omega⟩
  have H10 : Hid (∀ y ∈ flatP T.pairs, y.oneCell' = true) := flatP_one T.pairs
  have HL0 : Hid ((flatP T.pairs).length = T.pairs.length * 2) := flatP_length _
  obtain ⟨k0, k1, k2, k3, k4⟩ := box_cells5 S0.out
  have R0 : Hid _ := RP.out.below B0.out
  go_enter Tryz.func25, Tryz.ntmps25
  go_wp2_with (at_builtin; refine app_row ((w.alloc (.cells #[.bool tl, .slice a1 T.pairs.length q1, .slice a2 n2 q2, .slice a3 n3 q3, .slice a4 T.buf.length q4] 37)).alloc (.cells #[] 53)) rfl _ _ 33 rfl (w.heap.size + 1) 53 i0 _ 2 16 Tryz.underlying33 hi0 hz0 hz1 hz2 rfl (by decide) (.slice (some ⟨w.heap.size + 1, 0, none⟩) 0 0) 0 [] rfl E0.out (.slice a1 T.pairs.length q1) T.pairs.length (flatP T.pairs) rfl R0.out HL0.out H10.out HR0.out.1 HR0.out.2 Z0.out ?_)
  intro v1 w1 o1 _ b1
  have O1 : Hid (w1.ownsRow (w.heap.size + 1) 53 2 v1 (fo 0).length (flatP (fo 0))) := by
    rw [AZ.out]
    exact o1
  have B1 : Hid (Below w.heap.size w w1) := B0.out.trans (b1.mono (Nat.le_succ _))
  have S1 : Hid (OneAt w1 w.heap.size _) := S0.out.stepB b1 (Nat.lt_succ_self _)
  clear o1 b1 k0 k1 k2 k3 k4 E0 B0 S0 Z0 R0
  go_wp2
  go_loopw [3, 4] (fun out i wr => ∃ j : Nat, j ≤ n3 ∧ i = .int .i64 j ∧ Hid (wr.ownsRow (w.heap.size + 1) 53 2 out (fo j).length (flatP (fo j))) ∧ Hid (OneAt wr w.heap.size #[.bool tl, .slice a1 T.pairs.length q1, .slice a2 n2 q2, .slice a3 n3 q3, .slice a4 T.buf.length q4]) ∧ Hid (Below w.heap.size w wr))
    (fun _ i _ => n3 - (intOf i).toNat)
  case atStart => exact ⟨0, Nat.zero_le _, rfl, O1, S1, B1⟩
  case round =>
    obtain ⟨j, hj, rfl, ON, SN, BN⟩ := hrel
    clear O1 S1 B1
    obtain ⟨k0, k1, k2, k3, k4⟩ := box_cells5 SN.out
    by_cases hlt : j < n3
    · have hal := ha3 (by omega)
      subst hal
      have d0 := cell_lowB BN.out (cell_lt (c0 j hlt)) (c0 j hlt)
      have d1 := cell_lowB BN.out (cell_lt (c1 j hlt)) (c1 j hlt)
      have d2 := cell_lowB BN.out (cell_lt (c2 j hlt)) (c2 j hlt)
      have d3 := cell_lowB BN.out (cell_lt (c3 j hlt)) (c3 j hlt)
      have d4 := cell_lowB BN.out (cell_lt (c4 j hlt)) (c4 j hlt)
      have HC : Hid _ := HP.out j hlt wr BN.out
      have AS1 : Hid _ := AS.out j hlt
      have hal1 := AL.out j hj
      have hml1 := ML1.out j hlt
      generalize hy : tvAt xs j = y at *
      obtain ⟨yl, yp, yc, yk, yb⟩ := y
      simp only at d0 d1 d2 d3 d4
      generalize mapF m (kidT T j) = KM at *
      clear c0 c1 c2 c3 c4 HP hy
      have HR : Hid ((fo j).length + KM.length ≤ maxLen ∧ ((fo j).length + KM.length) * 16 ≤ 140737488355328) := ⟨by unfold maxLen; omega, by omega⟩
      have H1 : Hid (∀ y ∈ flatP KM, y.oneCell' = true) := flatP_one KM
      have HL : Hid ((flatP KM).length = KM.length * 2) := flatP_length _
      go_wp2_with fail
      refine Calls.mono HC.out ?_
      rintro e w2 ⟨v2, rfl, o2, hb2⟩
      have O2 : Hid (w2.ownsRow (w.heap.size + 1) 53 2 u3 (fo j).length (flatP (fo j))) := owns_below ON.out hb2
      have S2 : Hid (OneAt w2 w.heap.size _) := SN.out.step hb2
      have B2 : Hid (Below w.heap.size w w2) := Below.and BN.out hb2
      have R2 : Hid (Row w2 v2 KM.length (flatP KM)) := Row.of_owns o2
      have Z2 : Hid (w.heap.size + 1 ≤ w2.heap.size) := (Array.getElem?_eq_some_iff.1 S2.out).1
      clear hb2 o2 d0 d1 d2 d3 d4 k0 k1 k2 k3 k4 ON SN BN HC
      go_wp2_with (at_builtin; refine app_row w2 rfl _ _ 33 rfl (w.heap.size + 1) 53 i0 _ 2 16 Tryz.underlying33 hi0 hz0 hz1 hz2 rfl (by decide) u3 _ _ rfl O2.out v2 KM.length (flatP KM) rfl R2.out HL.out H1.out HR.out.1 HR.out.2 Z2.out ?_)
      intro v3 w3 o3 _ b3'
      have FIN : Hid _ := And.intro o3 (And.intro (S2.out.stepB b3' (Nat.lt_succ_self _)) (B2.out.trans (b3'.mono (Nat.le_succ _))))
      clear o3 b3'
      go_wp2
      go_roundw
      case rel => exact ⟨j + 1, by omega, by go_num, by rw [AS1.out, flatP_append, List.length_append]; exact FIN.out.1, FIN.out.2.1, FIN.out.2.2⟩
      case measure => simp [intOf]; omega
    · have hjj : j = n3 := by omega
      subst hjj
      have hal1 := AL.out j (Nat.le_refl _)
      have RO : Hid (Row wr u3 (fo j).length (flatP (fo j))) := Row.of_owns ON.out
      clear c0 c1 c2 c3 c4 ha3 ON
      go_wp2_with fail
      refine Calls.mono (specMapAll_any _ _ (fo j) T.buf _ RO.out (RB.out.below BN.out) (by omega)) ?_
      rintro e w2 ⟨v2, rfl, o2, hb2⟩
      have FIN : Hid _ := And.intro (owns_mono o2 BN.out.size) (Below.and BN.out hb2)
      clear o2 hb2 k0 k1 k2 k3 k4
      go_wp2
      go_ret
      exact ⟨_, rfl, FIN.out.1, FIN.out.2⟩

theorem map_0 : MapIs 0 := fun _ _ _ _ _ _ _ h => absurd rfl h
theorem map_any : ∀ m, MapIs m
  | 0 => map_0
  | m + 1 => map_of (map_any m)

/-- TreeMap's answer, TreeRange's -/
def mapT (T : Tr) : PL := if okT T = true then mapF 7 T else []
theorem mapT_mapP (T : Tr) : MapP (mapT T) := by
  unfold mapT
  split
  · exact (mapF_is (okT_depth (by assumption))).1
  · exact ⟨by simp [Asc, keys], fun p hp => by simp at hp⟩
theorem mapT_length (T : Tr) : (mapT T).length ≤ 1000 := (mapT_mapP T).length
def rangeT (T : Tr) (lo hi : Int) : PL := rangeL (mapT T) lo hi
theorem rangeT_length (T : Tr) (lo hi : Int) : (rangeT T lo hi).length ≤ 1000 := Nat.le_trans (rangeL_length _ _ _) (mapT_length T)

set_option maxHeartbeats 1000000 in
theorem specTreeMap_any (n : Nat) (x : TV) (T : Tr) (w : World) (ht : TreeAt n w x T) (hsz : sizeT n T ≤ 1099511627776) :
    Calls Tryz.prog 12 #[x.val] w fun e w' => ∃ v', e = .returned v' ∧ w'.ownsRow w.heap.size 53 2 v' (mapT T).length (flatP (mapT T)) ∧ Below w.heap.size w w' := by
  have TT : Hid (TreeAt n w x T) := ht
  clear ht
  obtain ⟨lf, p, c, k, b⟩ := x
  have B0 : Hid _ := bel_box w #[.bool lf, p, c, k, b]
  have S0 : Hid (OneAt _ w.heap.size _) := OneAt.start w #[.bool lf, p, c, k, b]
  have HC := specTreeOk_any n ⟨lf, p, c, k, b⟩ T _ (TT.out.below B0.out) hsz
  have HC' : Hid _ := HC
  clear HC
  have P1 : Hid (okT T = true → mapT T = mapF 7 T) := fun h => by rw [mapT, if_pos h]
  have P2 : Hid (okT T = false → mapT T = []) := fun h => by rw [mapT, if_neg (by rw [h]; simp)]
  show Calls Tryz.prog 12 #[.agg #[.bool lf, p, c, k, b]] w _
  cases hok : okT T
  · rw [P2.out hok]
    rw [hok] at HC'
    clear P1 P2
    go_enter Tryz.func12, Tryz.ntmps12
    go_wp2_with fail
    refine Calls.mono HC'.out ?_
    rintro e w1 ⟨rfl, hb1⟩
    have B1 : Hid (Below w.heap.size w w1) := Below.and B0.out hb1
    clear hb1 B0
    go_wp2
    go_ret
    exact ⟨_, rfl, empty_own w1 w.heap.size 53 2 B1.out.size, B1.out.alloc B1.out.size _⟩
  · rw [P1.out hok]
    have HD : Hid (∀ w1, Below w.heap.size w w1 → Calls Tryz.prog 25 #[.agg #[.bool lf, p, c, k, b]] w1 fun e w' => ∃ v', e = .returned v' ∧ w'.ownsRow w1.heap.size 53 2 v' (mapF 7 T).length (flatP (mapF 7 T)) ∧ Below w1.heap.size w1 w') :=
      fun w1 hb => map_any 7 n ⟨lf, p, c, k, b⟩ T 0 1000 w1 (TT.out.below hb) (okT_depth hok)
    rw [hok] at HC'
    clear P1 P2
    generalize mapF 7 T = M at *
    go_enter Tryz.func12, Tryz.ntmps12
    go_wp2_with fail
    refine Calls.mono HC'.out ?_
    rintro e w1 ⟨rfl, hb1⟩
    have B1 : Hid (Below w.heap.size w w1) := Below.and B0.out hb1
    have k0 := (S0.out.step hb1).cells
    clear hb1 B0
    go_wp2_with fail
    refine Calls.mono (HD.out w1 B1.out) ?_
    rintro e w2 ⟨v2, rfl, o2, hb2⟩
    have FIN : Hid _ := And.intro (owns_mono o2 B1.out.size) (Below.and B1.out hb2)
    clear hb2 o2 k0
    go_wp2
    go_ret
    exact ⟨_, rfl, FIN.out.1, FIN.out.2⟩

theorem app_oneL {P : Program} {ops : Array Oper} {rest : List Oper} {o : Oper} {a : Act} {Q : Exit → Act → World → Prop} (W : World) (B : Nat) (hB : W.heap.size = B) (hgd : o.guard = none) (s x : Operand) (t : TypeId)
    (ho : o.op = .call { callee := .builtin .append, args := #[s, x], argTypes := #[t, t] })
    (base : Nat) (e : TypeId) (i : TypeInfo) (z : Value) (size bytes : Nat) (ht : P.underlying t = some (.slice e)) (hi : P.info? e = some i) (hz : i.zero = some z)
    (hsize : i.size = size) (hby : i.bytes = bytes) (hzs : z.cells.size = size) (hsz : 0 < size)
    (v : Value) (n : Nat) (xs : List Value) (hs : a.eval s = v) (hown : W.ownsRow base e size v n xs)
    (news : List Value) (hx : a.eval x = .slice (some ⟨B, 0, none⟩) 1 1) (hl : news.length = size) (h1 : ∀ u ∈ news, u.oneCell' = true)
    (h63 : n + 1 ≤ maxLen) (hbytes : (n + 1) * bytes ≤ 140737488355328) (hbase : base ≤ W.heap.size)
    (h : ∀ v' w', w'.ownsRow base e size v' (n + 1) (xs ++ news) → Chg (fun g => v.ownBlock = some g) W w' → Below base W w' → (∀ g, v'.ownBlock = some g → v.ownBlock = some g ∨ g = B + 1) → wpList P ops Q rest (a.put o.dst v') w') :
    wpList P ops Q (o :: rest) a (W.alloc (.cells news.toArray e)) := by
  subst hB
  refine wpList_append_lies _ hgd s x t ho base e i z size bytes ht hi hz hsize hby hzs hsz v n xs hs (hown.alloc _) ⟨W.heap.size, 0, none⟩ 1 1 news hx (by omega) ?_ h1 (by decide) h63 hbytes (by simp; omega) (W.heap.size + 1) (by simp) ?_
  · intro j u hj
    rw [Go.WideShapes.add_plain, Nat.zero_add, cell_of_cells (heap_alloc_new W _)]
    simpa using hj
  · intro g cap w' h2 h3 h4 _
    have hc : Chg (fun g => v.ownBlock = some g) W w' := ((Chg.refl _ _).alloc _).trans (chg_of_grown h3) (fun _ _ e => e)
    refine h _ w' h2 hc (below_of_own hown hc hbase) (fun g' hg' => ?_)
    have : g = g' := by simpa [Value.ownBlock] using hg'
    subst this
    exact h4

end Go.Proofs.YtccdleafkhnfmaaGreat
