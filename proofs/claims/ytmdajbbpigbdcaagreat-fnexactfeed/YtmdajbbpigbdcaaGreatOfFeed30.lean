/-
  The program's joined: parts of lists of entries laid one behind the other into memory of their own.
  The program's tailOf, headOf, EntriesFrom, copyOfLog.
  The program's saySnap and sayEntries: what a leader tells of its node.
-/
import Derived.Test.YtmdajbbpigbdcaaGreatOfFeed25
import Derived.Test.YtmdajbbpigbdcaaGreatOfFeed29
import Derived.Test.YtmdajbbpigbdcaaGreatOfFeed21
import Derived.Test.YtmdajbbpigbdcaaGreatOfFeed7
import Derived.BigRegion
namespace Go.Proofs.YtmdajbbpigbdcaaGreat
set_option maxRecDepth 100000
set_option maxHeartbeats 8000000
section
open Go.RowKit

abbrev PtL := List (Value × EL)
def ptV (ps : PtL) (j : Nat) : Value := (ps.getD j (.slice none 0 0, [])).1
def ptL (ps : PtL) (j : Nat) : EL := (ps.getD j (.slice none 0 0, [])).2
def joinP (ps : PtL) (j : Nat) : EL := ((ps.take j).map (·.2)).flatten
theorem joinP_zero (ps : PtL) : joinP ps 0 = [] := rfl
theorem joinP_succ (ps : PtL) (j : Nat) (h : j < ps.length) : joinP ps (j + 1) = joinP ps j ++ ptL ps j := by
 unfold joinP ptL
 rw [List.take_succ_eq_append_getElem h, List.map_append, List.flatten_append]
 congr 1
 simp [List.getD, h]
theorem joinP_len (ps : PtL) (j : Nat) (h : j < ps.length) : (joinP ps (j + 1)).length = (joinP ps j).length + (ptL ps j).length := by rw [joinP_succ ps j h, List.length_append]
theorem joinP_mono (ps : PtL) : ∀ k j, j + k ≤ ps.length → (joinP ps j).length ≤ (joinP ps (j + k)).length := by
 intro k
 induction k with
 | zero => intro j _; exact Nat.le_refl _
 | succ k ih =>
  intro j h
  have h1 := ih j (by omega)
  have h2 := joinP_len ps (j + k) (by omega)
  rw [show j + (k + 1) = j + k + 1 by omega]
  omega
theorem joinP_le (ps : PtL) (j : Nat) (h : j ≤ ps.length) : (joinP ps j).length ≤ (joinP ps ps.length).length := by
 have := joinP_mono ps (ps.length - j) j (by omega)
 rwa [show j + (ps.length - j) = ps.length by omega] at this
def laidP (ps : PtL) (j : Nat) : List Value := flatE (joinP ps j ++ List.replicate ((joinP ps ps.length).length - (joinP ps j).length) en0)
theorem laidP_length (ps : PtL) (j : Nat) (h : j ≤ ps.length) : (laidP ps j).length = (joinP ps ps.length).length * 6 := by
 unfold laidP; rw [flatE_length, List.length_append, List.length_replicate]; have := joinP_le ps j h; omega
theorem laidP_full (ps : PtL) : laidP ps ps.length = flatE (joinP ps ps.length) := by unfold laidP; simp
theorem laidP_step (ps : PtL) (j : Nat) (h : j < ps.length) : splice (laidP ps j) ((joinP ps j).length * 6) (flatE (ptL ps j)) = laidP ps (j + 1) := by
 have hl := joinP_len ps j h
 have hle := joinP_le ps (j + 1) h
 unfold splice laidP
 obtain ⟨m, hm⟩ : ∃ m, (joinP ps ps.length).length - (joinP ps j).length = (ptL ps j).length + m := ⟨(joinP ps ps.length).length - (joinP ps j).length - (ptL ps j).length, by omega⟩
 rw [hm, show (joinP ps ps.length).length - (joinP ps (j + 1)).length = m by omega, joinP_succ ps j h]
 simp only [flatE_append, flatE_zero]
 rw [List.take_left' (by rw [flatE_length]), List.drop_append, List.drop_of_length_le (by rw [flatE_length]; omega), List.drop_replicate, flatE_length, flatE_length]
 simp only [List.nil_append, List.append_assoc]
 congr 3
 omega

theorem heap_of_full {w : World} {base e n : Nat} {g : Nat} {xs : List Value} (h : w.ownsRow base e 6 (.slice (some ⟨g, 0, none⟩) n n) n xs) : w.heap[g]? = some (.cells xs.toArray e (0, 0)) := by
 obtain ⟨hl, ⟨e1, _⟩ | ⟨g2, cap2, cur, e1, _, e2, h1, h2, h3, h4⟩⟩ := h
 ·simp at e1
 ·simp at e1
  obtain ⟨rfl, rfl⟩ := e1
  rw [e2]
  have : cur = xs.toArray := by
   apply Array.toList_inj.1
   rw [← h4]
   simp
   rw [List.take_of_length_le (by simp; omega)]
  rw [this]

theorem joined_any (pv : Value) (ps : PtL) (w : World) (h : Row w pv ps.length (ps.map (·.1))) (hall : ∀ j, j < ps.length → Row w (ptV ps j) (ptL ps j).length (flatE (ptL ps j))) (hs : (joinP ps ps.length).length ≤ 2097152) :
  Calls Tryz.prog 94 #[pv] w fun e w' => ∃ v', e = .returned v' ∧ w'.ownsRow w.heap.size 113 6 v' (joinP ps ps.length).length (flatE (joinP ps ps.length)) ∧ Below w.heap.size w w' := by
 obtain ⟨a, b, off, cap, rfl, hcap, hmax, ha, hx, -⟩ := h
 obtain ⟨i0, hi0, hz0, hz1, hz2⟩ := info_parts Tryz.info113
 unfold maxLen at hmax
 have HX : Hid (∀ j, j < ps.length → w.cell? ⟨b, off + j, none⟩ = some (ptV ps j)) := fun j hj => hx j _ (by simp [ptV, List.getD, hj])
 have HA : Hid (∀ j, j < ps.length → Row w (ptV ps j) (ptL ps j).length (flatE (ptL ps j))) := hall
 clear hx hall
 go_enter Tryz.func94, Tryz.ntmps94
 go_wp2
 go_loop [3, 12] (fun c i => ∃ j : Nat, j ≤ ps.length ∧ i = .int .i64 j ∧ c = .int .i64 ((joinP ps j).length : Nat)) (fun _ i => ps.length - (intOf i).toNat)
 case atStart => exact ⟨0, Nat.zero_le _, rfl, rfl⟩
 case round =>
  obtain ⟨j, hj, rfl, rfl⟩ := hrel
  by_cases hlt : j < ps.length
  ·have hal := ha (by omega)
   subst hal
   obtain ⟨aj, bj, oj, cj, hv, hc1, hc2, -⟩ := HA.out j hlt
   have d0 : w.cell? ⟨b, off + j, none⟩ = some (.slice aj (ptL ps j).length cj) := by rw [HX.out j hlt, hv]
   have hl := joinP_len ps j hlt
   have hle := joinP_le ps (j + 1) hlt
   have HL : Hid _ := hl
   have hb1 : (joinP ps j).length + (ptL ps j).length ≤ 2097152 := by omega
   clear hv hc1 hc2 hl hle
   generalize (joinP ps j).length = cj0 at *
   generalize (ptL ps j).length = lj at *
   go_wp2
   go_round
   case rel => exact ⟨j + 1, by omega, by go_num, by rw [HL.out]; go_num⟩
   case measure => simp [intOf]; omega
  ·have hjl : j = ps.length := by omega
   subst hjl
   go_wp2_with (at_make; refine wpList_make_full _ rfl _ _ 38 rfl w.heap.size 113 i0 _ 6 Tryz.underlying38 hi0 hz0 hz1 .i64 .i64 _ _ (joinP ps ps.length).length rfl rfl rfl rfl ?c1 ?c2 ?c3 ?_)
   case c1 => first | omega | (rw [hz2]; omega)
   case c2 => unfold maxLen; omega
   intro w0 hown0 hgrow0
   have hb0 : Below w.heap.size w w0 := (Below.refl _ _).grown hgrow0 (Nat.le_refl _) (fun k hk => by cases hk)
   have hh0 := heap_of_full hown0
   rw [show (madeCells _ ((joinP ps ps.length).length * 6)).toList = flatE (List.replicate (joinP ps ps.length).length en0) from madeCells_ent _] at hh0
   have HS : Hid (w0.heap[w.heap.size]? = some (.cells (laidP ps 0).toArray 113 (0, 0)) ∧ Below w.heap.size w w0) := ⟨by unfold laidP; rw [joinP_zero]; simpa using hh0, hb0⟩
   clear hgrow0 hown0 hb0 hh0
   go_wp2
   go_loopw [7, 25] (fun c i wr => ∃ j : Nat, j ≤ ps.length ∧ i = .int .i64 j ∧ c = .int .i64 ((joinP ps j).length : Nat) ∧ Hid (wr.heap[w.heap.size]? = some (.cells (laidP ps j).toArray 113 (0, 0))) ∧ Hid (Below w.heap.size w wr))
    (fun _ i _ => ps.length - (intOf i).toNat)
   case atStart => exact ⟨0, Nat.zero_le _, rfl, rfl, HS.out.1, HS.out.2⟩
   case round =>
    obtain ⟨j, hj, rfl, rfl, HC, HB⟩ := hrel
    clear HS
    by_cases hlt : j < ps.length
    ·have hal := ha (by omega)
     subst hal
     obtain ⟨aj, bj, oj, cj, hv, hc1, hc2, haj, hxj, -⟩ := HA.out j hlt
     have d0 : wr.cell? ⟨b, off + j, none⟩ = some (.slice aj (ptL ps j).length cj) := by rw [HB.out.cell (by exact cell_lt (HX.out j hlt)), HX.out j hlt, hv]
     have hl := joinP_len ps j hlt
     have hle := joinP_le ps (j + 1) hlt
     have HL : Hid _ := hl
     have HJ : Hid _ := And.intro haj hxj
     have hb1 : (joinP ps j).length + (ptL ps j).length ≤ (joinP ps ps.length).length := by omega
     clear hv hc1 hc2 hl hle haj hxj
     generalize hn0 : (joinP ps j).length = n0 at *
     generalize hn1 : (ptL ps j).length = n1 at *
     generalize hn2 : (joinP ps ps.length).length = n2 at *
     have HN : Hid _ := And.intro hn0 (And.intro hn1 hn2)
     clear hn0 hn1 hn2
     have hsz : (Tryz.prog.info? 113).map (·.size) = some 6 := by rw [hi0]; simp [hz1]
     have hcl : Hid ((flatE (ptL ps j)).length = n1 * 6) := by show _ = _; rw [flatE_length, HN.out.2.1]
     have hll : Hid ((laidP ps j).length = n2 * 6) := by show _ = _; rw [laidP_length ps j (by omega), HN.out.2.2]
     have hstep : Hid (splice (laidP ps j) (n0 * 6) (flatE (ptL ps j)) = laidP ps (j + 1)) := by show _ = _; have := laidP_step ps j hlt; rw [HN.out.1] at this; exact this
     have hsrc : Hid (0 < n1 → ∃ ad, aj = some ad ∧ ∀ k v, (flatE (ptL ps j))[k]? = some v → wr.cell? (ad.add k) = some v) := fun h0 => by
      refine ⟨⟨bj, oj, none⟩, HJ.out.1 h0, fun k v hk => ?_⟩
      have h1 := HJ.out.2 k v hk
      rw [show (Addr.add ⟨bj, oj, none⟩ k) = ⟨bj, oj + k, none⟩ by simp [Addr.add]]
      rw [HB.out.cell (by exact cell_lt h1)]
      exact h1
     by_cases hq : n2 = n0
     ·subst hq
      have hn1 : n1 = 0 := by omega
      subst hn1
      go_wp2_with (refine wpList_copy_N rfl _ _ 38 38 rfl 113 6 0 Tryz.underlying38 hsz (some ⟨w.heap.size, 0, none⟩) aj 0 0 0 cj rfl rfl w.heap.size (n2 * 6) (laidP ps j) 113 HC.out (flatE (ptL ps j)) rfl hcl.out (fun h => absurd h (Nat.lt_irrefl _)) (by rw [hcl.out, hll.out]; omega) (flatE_one _) w.heap.size w HB.out (Nat.le_refl _) ?_)
      intro w2 HG HB2
      have HG2 : Hid (w2.heap[w.heap.size]? = some (.cells (laidP ps (j + 1)).toArray 113 (0, 0))) := by have := HG.out; rw [hstep.out] at this; exact this
      have HB3 : Hid _ := HB2
      clear HG HB2
      go_wp2
      go_roundw
      case rel => exact ⟨j + 1, by omega, by go_num, by rw [HL.out]; go_num, HG2.out, HB3.out⟩
      case measure => simp [intOf]; omega
     ·have hmin : Nat.min n1 (n2 - n0) = n1 := Nat.min_eq_left (by omega)
      have HM : Hid _ := hmin
      clear hmin
      go_wp2_with (refine wpList_copy_N rfl _ _ 38 38 rfl 113 6 n1 Tryz.underlying38 hsz (some ⟨w.heap.size, n0 * 6, none⟩) aj (n2 - n0) (n2 - n0) n1 cj rfl rfl w.heap.size (n0 * 6) (laidP ps j) 113 HC.out (flatE (ptL ps j)) HM.out hcl.out (fun h => ⟨rfl, hsrc.out h⟩) (by rw [hcl.out, hll.out]; omega) (flatE_one _) w.heap.size w HB.out (Nat.le_refl _) ?_)
      intro w2 HG HB2
      have HG2 : Hid (w2.heap[w.heap.size]? = some (.cells (laidP ps (j + 1)).toArray 113 (0, 0))) := by have := HG.out; rw [hstep.out] at this; exact this
      have HB3 : Hid _ := HB2
      clear HG HB2
      go_wp2
      go_roundw
      case rel => exact ⟨j + 1, by omega, by go_num, by rw [HL.out]; go_num, HG2.out, HB3.out⟩
      case measure => simp [intOf]; omega
    ·have hjl : j = ps.length := by omega
     subst hjl
     have FIN : Hid (wr.ownsRow w.heap.size 113 6 (.slice (some ⟨w.heap.size, 0, none⟩) (joinP ps ps.length).length (joinP ps ps.length).length) (joinP ps ps.length).length (flatE (joinP ps ps.length)) ∧ Below w.heap.size w wr) := by
      refine ⟨⟨flatE_length _, .inr ⟨w.heap.size, _, _, rfl, Nat.le_refl _, HC.out, Nat.le_refl _, by unfold maxLen; omega, ?_, ?_⟩⟩, HB.out⟩
      ·simp [laidP_full, flatE_length]
      ·rw [laidP_full]; simp; rw [List.take_of_length_le (by rw [flatE_length]; omega)]
     clear HC HB HX HA
     go_wp2
     go_ret
     exact ⟨_, rfl, FIN.out⟩
end
section
open Go.RowKit

theorem Row.of_box {w : World} {B t k : Nat} {xs : List Value} (h : w.heap[B]? = some (.cells xs.toArray t (0, 0))) (hk : k ≤ maxLen) : Row w (.slice (some ⟨B, 0, none⟩) k k) k xs :=
 ⟨_, B, 0, k, rfl, Nat.le_refl _, hk, fun _ => rfl, fun j u hj => by rw [cell_of_cells h]; simpa using hj, fun h => by cases h⟩

theorem joined_one (B t : Nat) (v : Value) (l : EL) (w : World) (hB : w.heap[B]? = some (.cells #[v] t (0, 0))) (h : Row w v l.length (flatE l)) (hs : l.length ≤ 2097152) :
  Calls Tryz.prog 94 #[.slice (some ⟨B, 0, none⟩) 1 1] w fun e w' => ∃ v', e = .returned v' ∧ w'.ownsRow w.heap.size 113 6 v' l.length (flatE l) ∧ Below w.heap.size w w' := by
 have hj : joinP [(v, l)] [(v, l)].length = l := by simp [joinP]
 have := joined_any (.slice (some ⟨B, 0, none⟩) 1 1) [(v, l)] w (Row.of_box (xs := [v]) hB (by decide)) (fun j hj => by
  obtain rfl : j = 0 := by simpa using hj
  simpa [ptV, ptL] using h) (by rw [hj]; exact hs)
 rw [hj] at this
 exact this
theorem tailOf_any (v : Value) (l : EL) (k : Nat) (w : World) (h : Row w v l.length (flatE l)) (hk : k ≤ l.length) :
  Calls Tryz.prog 144 #[v, .int .i64 k] w fun e w' => ∃ v', e = .returned v' ∧ Row w v' (l.drop k).length (flatE (l.drop k)) ∧ w' = w := by
 obtain ⟨a, bb, off, cap, rfl, hcap, hmax, -⟩ := h.ents
 unfold maxLen at hmax
 have P1 := h.part hk (Nat.le_refl _) (Nat.le_refl _) hcap
 rw [List.take_length] at P1
 obtain ⟨a2, ha2⟩ : ∃ a2, (if l.length = k then a else a.map (·.add (k * 6))) = a2 := ⟨_, rfl⟩
 rw [ha2] at P1
 have PP : Hid (Row w (.slice a2 (l.length - k) (l.length - k)) (l.length - k) (flatE (l.drop k))) := P1
 clear h P1
 have HLD : Hid ((l.drop k).length = l.length - k) := List.length_drop
 generalize (l.drop k).length = ld at *
 generalize l.length = n at *
 go_enter Tryz.func144, Tryz.ntmps144
 go_wp2
 go_ret
 exact ⟨_, rfl, by rw [HLD.out]; exact PP.out, rfl⟩

theorem implEntriesFrom_any (b bt : Int) (v : Value) (l : EL) (i : Int) (w : World) (h : Row w v l.length (flatE l)) (hb : I64 b) (hi : I64 i) (hs : l.length ≤ 2097152) :
  Calls Tryz.prog 137 #[lgV b bt v, .int .i64 i] w fun e w' => ∃ v', e = .returned v' ∧ w'.ownsRow w.heap.size 113 6 v' (entsB b l i).length (flatE (entsB b l i)) ∧ Below w.heap.size w w' := by
 have C : Hid (∀ u, Below w.heap.size w u → Calls Tryz.prog 143 #[lgV b bt v, .int .i64 i] u fun e w' => e = .returned (placeLV (placeB b l i)) ∧ Below u.heap.size u w') := fun u hu => placeOf_any b bt v l i u (Row.below h hu) hb hi
 have R0 : Hid (∀ u, Below w.heap.size w u → Row u v l.length (flatE l)) := fun u hu => Row.below h hu
 have N1 : Hid (MBox 40 (w.alloc (.cells #[.int .i64 b, .int .i64 bt, v] 40)) w.heap.size #[.int .i64 b, .int .i64 bt, v]) := MBox.start _ w _
 have B1 : Hid (Below w.heap.size w (w.alloc (.cells #[.int .i64 b, .int .i64 bt, v] 40))) := bel_nw _ _
 have c1 := N1.out.cells
 clear h hb hi
 cases hp : placeB b l i with
 | none =>
  rw [hp] at C
  have E : Hid (entsB b l i = []) := entsB_none hp
  clear hp
  go_enter Tryz.func137, Tryz.ntmps137
  go_wp2_with fail
  refine (C.out _ B1.out).mono ?_
  rintro e w1 ⟨rfl, b1⟩
  have B2 : Hid (Below w.heap.size w w1) := Below.and B1.out b1
  clear b1
  go_wp2
  go_ret
  exact ⟨_, rfl, by rw [E.out]; exact World.ownsRow_nil _ _ _ _, B2.out⟩
 | some n =>
  rw [hp] at C
  have E : Hid (entsB b l i = l.drop n) := entsB_some hp
  have hn := (placeB_some hp).1
  clear hp
  go_enter Tryz.func137, Tryz.ntmps137
  go_wp2_with fail
  refine (C.out _ B1.out).mono ?_
  rintro e w1 ⟨rfl, b1⟩
  have B2 : Hid (Below w.heap.size w w1) := Below.and B1.out b1
  have N2 := N1.out.step b1
  clear b1 c1
  have c1 := N2.cells
  clear N2
  go_wp2_with fail
  refine (tailOf_any v l n w1 (R0.out _ B2.out) (by omega)).mono ?_
  rintro e w2 ⟨v2, rfl, r2, rfl⟩
  obtain ⟨a2, q2, hv2, -⟩ := r2.len
  have R2 : Hid (Row (w2.alloc (.cells #[v2] 38)) v2 (l.drop n).length (flatE (l.drop n))) := r2.below (bel_nw _ _)
  have HX : Hid ((w2.alloc (.cells #[v2] 38)).heap[w2.heap.size]? = some (.cells #[v2] 38 (0, 0))) := heap_alloc_new _ _
  have B3 : Hid (Below w.heap.size w (w2.alloc (.cells #[v2] 38))) := Below.and B2.out (bel_nw _ _)
  subst hv2
  clear r2
  generalize hld : (l.drop n).length = ld at *
  have HLD : Hid _ := hld
  have hld2 : ld ≤ 2097152 := by rw [← hld, List.length_drop]; omega
  clear hld
  go_wp2_with fail
  refine (joined_one w2.heap.size 38 (.slice a2 ld q2) (l.drop n) _ HX.out (by rw [HLD.out]; exact R2.out) (by rw [HLD.out]; exact hld2)).mono ?_
  rintro e w3 ⟨v3, rfl, o3, b3⟩
  have FIN : Hid (w3.ownsRow w.heap.size 113 6 v3 (entsB b l i).length (flatE (entsB b l i)) ∧ Below w.heap.size w w3) := by
   show _ ∧ _
   rw [E.out]
   exact ⟨owns_mono o3 B3.out.size, Below.and B3.out b3⟩
  clear o3 b3
  go_wp2
  go_ret
  exact ⟨_, rfl, FIN.out⟩
end
section
open Go.RowKit

theorem sayEntries_any (n : Nat) (M : NodV) (D : Nd) (w0 w : World) (B : Nat) (ti : Int) (h : NodAt n w0 M D) (hs : D.small n) (tn : Nat) (hto : ti = tn) (htn : tn < D.nx.length) (hlb : I64 M.lb) (hnx : I64 (feedX D ti)) (hn1 : I64 (feedX D ti - 1)) (hb : Below w0.heap.size w0 w) (hB0 : w0.heap.size ≤ B)
  (hB : w.heap[B]? = some (.cells #[.int .i64 3, .int .i64 M.id, .int .i64 ti, .int .i64 M.te, .int .i64 0, .int .i64 0, .int .i64 0, .bool false, .slice none 0 0, .bool false, .slice none 0 0, .slice none 0 0, .slice none 0 0, .slice none 0 0, .slice none 0 0] 57 (0, 0))) :
  Calls Tryz.prog 118 #[.pointer (some ⟨B, 0, none⟩), M.val] w fun e w' => e = .returned (.tuple #[]) ∧ ∃ K : RpcV, (rpPu M D ti (.slice none 0 0) zM).like K ∧ w'.heap[B]? = some (.cells (rpcArr K) 57 (0, 0)) ∧ RpcDh n w' w.heap.size w'.heap.size K ⟨entsB M.lb D.l (feedX D ti), zT, []⟩ ∧ Chg (fun g => g = B) w w' := by
 subst hto
 have hx0 : feedX D (tn : Int) = iAt D.nx tn := by simp [feedX]
 have CT : Hid (∀ u, Below w0.heap.size w0 u → Calls Tryz.prog 136 #[lgV M.lb M.lt M.lv, .int .i64 (feedX D (tn : Int) - 1)] u fun e w' => e = .returned (.int .i64 (termB M.lb M.lt D.l (feedX D (tn : Int) - 1))) ∧ Below u.heap.size u w') := fun u hu => implTermAt_any M.lb M.lt M.lv D.l _ u (h.1.below hu) hlb hn1
 have CE : Hid (∀ u, Below w0.heap.size w0 u → Calls Tryz.prog 137 #[lgV M.lb M.lt M.lv, .int .i64 (feedX D (tn : Int))] u fun e w' => ∃ v', e = .returned v' ∧ w'.ownsRow u.heap.size 113 6 v' (entsB M.lb D.l (feedX D (tn : Int))).length (flatE (entsB M.lb D.l (feedX D (tn : Int)))) ∧ Below u.heap.size u w') := fun u hu => implEntriesFrom_any M.lb M.lt M.lv D.l _ u (h.1.below hu) hlb hnx (by have := hs.1; omega)
 obtain ⟨n', hn'⟩ : ∃ n', n = n' + 1 := by
  cases n with
  | zero => exact (h.2.1.1).elim
  | succ n' => exact ⟨n', rfl⟩
 obtain ⟨id, nte, vo, lb, lt, lv, ⟨⟨sl, sp, sc, sk, sb⟩, sv⟩, ro, vv, nv, mv, ncm, ⟨⟨ol, op, oc, ok, ob⟩, ov⟩⟩ := M
 obtain ⟨q1, q2, q3, q4, q5, q6⟩ := h
 obtain ⟨an, bN, oN, cn, hnv, hcn, hmn, han, hxn⟩ := q4.ints
 simp only at hnv
 subst hnv
 have hal := han (by omega)
 subst hal
 have hws : IntKind.i64.wrap (feedX D (tn : Int) - 1) = feedX D (tn : Int) - 1 := by rw [IntKind.wrap_i64]; unfold I64 at hn1; omega
 have RN : Hid (∀ u, Below w0.heap.size w0 u → u.cell? ⟨bN, oN + tn, none⟩ = some (.int .i64 (feedX D (tn : Int)))) := fun u hu => by rw [hx0]; exact (hu.cell (cell_lt (hxn tn htn))).trans (hxn tn htn)
 clear q1 q2 q3 q4 q5 q6 han hxn hs hlb hnx hn1 hx0 hcn
 unfold maxLen at hmn
 generalize hfx : feedX D (tn : Int) = fx at *
 have FX := hid9 hfx
 clear hfx
 generalize hnn : D.nx.length = nN at *
 clear hnn
 have ht2 : ((tn : Nat) : Int) < ((nN : Nat) : Int) := by omega
 have hBl : B < w.heap.size := (Array.getElem?_eq_some_iff.1 hB).1
 have Y1 : Hid ((w.alloc (.cells #[.int .i64 id, .int .i64 nte, .int .i64 vo, .int .i64 lb, .int .i64 lt, lv, .bool sl, sp, sc, sk, sb, sv, .int .i64 ro, vv, .slice (some ⟨bN, oN, none⟩) nN cn, mv, .int .i64 ncm, .bool ol, op, oc, ok, ob, ov] 50)).heap[w.heap.size]? = some (.cells #[.int .i64 id, .int .i64 nte, .int .i64 vo, .int .i64 lb, .int .i64 lt, lv, .bool sl, sp, sc, sk, sb, sv, .int .i64 ro, vv, .slice (some ⟨bN, oN, none⟩) nN cn, mv, .int .i64 ncm, .bool ol, op, oc, ok, ob, ov] 50 (0, 0))) := MBox.start 50 w #[.int .i64 id, .int .i64 nte, .int .i64 vo, .int .i64 lb, .int .i64 lt, lv, .bool sl, sp, sc, sk, sb, sv, .int .i64 ro, vv, .slice (some ⟨bN, oN, none⟩) nN cn, mv, .int .i64 ncm, .bool ol, op, oc, ok, ob, ov]
 have B1 : Hid (Below w.heap.size w (w.alloc (.cells #[.int .i64 id, .int .i64 nte, .int .i64 vo, .int .i64 lb, .int .i64 lt, lv, .bool sl, sp, sc, sk, sb, sv, .int .i64 ro, vv, .slice (some ⟨bN, oN, none⟩) nN cn, mv, .int .i64 ncm, .bool ol, op, oc, ok, ob, ov] 50))) := bel_nw _ _
 have X1 : Hid ((w.alloc (.cells #[.int .i64 id, .int .i64 nte, .int .i64 vo, .int .i64 lb, .int .i64 lt, lv, .bool sl, sp, sc, sk, sb, sv, .int .i64 ro, vv, .slice (some ⟨bN, oN, none⟩) nN cn, mv, .int .i64 ncm, .bool ol, op, oc, ok, ob, ov] 50)).heap[B]? = some (.cells #[.int .i64 3, .int .i64 id, .int .i64 (tn : Int), .int .i64 nte, .int .i64 0, .int .i64 0, .int .i64 0, .bool false, .slice none 0 0, .bool false, .slice none 0 0, .slice none 0 0, .slice none 0 0, .slice none 0 0, .slice none 0 0] 57 (0, 0))) := step_at hB B1.out
 have BB : Hid (Below w0.heap.size w0 (w.alloc (.cells #[.int .i64 id, .int .i64 nte, .int .i64 vo, .int .i64 lb, .int .i64 lt, lv, .bool sl, sp, sc, sk, sb, sv, .int .i64 ro, vv, .slice (some ⟨bN, oN, none⟩) nN cn, mv, .int .i64 ncm, .bool ol, op, oc, ok, ob, ov] 50))) := Below.and hb B1.out
 have CH : Hid (Chg (fun g => g = B) w (w.alloc (.cells #[.int .i64 id, .int .i64 nte, .int .i64 vo, .int .i64 lb, .int .i64 lt, lv, .bool sl, sp, sc, sk, sb, sv, .int .i64 ro, vv, .slice (some ⟨bN, oN, none⟩) nN cn, mv, .int .i64 ncm, .bool ol, op, oc, ok, ob, ov] 50))) := (Chg.refl _ _).alloc _
 have zw : w.heap.size < (w.alloc (.cells #[.int .i64 id, .int .i64 nte, .int .i64 vo, .int .i64 lb, .int .i64 lt, lv, .bool sl, sp, sc, sk, sb, sv, .int .i64 ro, vv, .slice (some ⟨bN, oN, none⟩) nN cn, mv, .int .i64 ncm, .bool ol, op, oc, ok, ob, ov] 50)).heap.size := by simp
 show Calls Tryz.prog 118 #[.pointer (some ⟨B, 0, none⟩), .agg #[.int .i64 id, .int .i64 nte, .int .i64 vo, .int .i64 lb, .int .i64 lt, lv, .bool sl, sp, sc, sk, sb, sv, .int .i64 ro, vv, .slice (some ⟨bN, oN, none⟩) nN cn, mv, .int .i64 ncm, .bool ol, op, oc, ok, ob, ov]] w _
 go_enter Tryz.func118, Tryz.ntmps118
 go_upto_region 1 with fail
 generalize w.alloc (.cells #[.int .i64 id, .int .i64 nte, .int .i64 vo, .int .i64 lb, .int .i64 lt, lv, .bool sl, sp, sc, sk, sb, sv, .int .i64 ro, vv, .slice (some ⟨bN, oN, none⟩) nN cn, mv, .int .i64 ncm, .bool ol, op, oc, ok, ob, ov] 50) = W at *
 have c1 := fun j => cell_of_cells (j := j) Y1.out
 have d1 := fun j => cell_of_cells (j := j) X1.out
 have r1 := RN.out W BB.out
 have hne : w.heap.size ≠ B := by omega
 go_quiet (fail)
 go_upto_region 2 with fail
 have dw : Below W.heap.size W (W.drewN nq) := below_drewN (Below.refl _ _) nq
 replace Y1 := hid9 (step_at Y1.out dw)
 replace X1 := hid9 (step_at X1.out dw)
 replace BB := hid9 (Below.and BB.out dw)
 replace CH := hid9 (CH.out.drewN nq)
 replace zw : w.heap.size < (W.drewN nq).heap.size := Nat.lt_of_lt_of_le zw dw.size
 clear dw r1 c1 d1 RN
 generalize W.drewN nq = V at *
 have c1 := fun j => cell_of_cells (j := j) Y1.out
 go_wp2_with fail
 refine (CT.out _ BB.out).mono ?_
 rintro e w1 ⟨rfl, b1⟩
 generalize htb : termB lb lt D.l (fx - 1) = tb at *
 have TB := hid9 htb
 clear htb
 replace Y1 := hid9 (step_at Y1.out b1)
 replace X1 := hid9 (step_at X1.out b1)
 replace BB := hid9 (Below.and BB.out b1)
 replace CH := hid9 (CH.out.trans (Chg.of_below b1) (fun _ _ e => e))
 replace zw : w.heap.size < w1.heap.size := Nat.lt_of_lt_of_le zw b1.size
 clear b1 c1
 have d1 := fun j => cell_of_cells (j := j) X1.out
 have f1 : ∀ j, w1.frozen? ⟨B, j, none⟩ = false := fun j => frozen_of_cells X1.out
 have g2 : Chg (fun g => g = B) w1 ((w1.setCell ⟨B, 4, none⟩ (.int .i64 (fx - 1))).setCell ⟨B, 5, none⟩ (.int .i64 tb)) := ((Chg.refl (fun g => g = B) w1).setAt B 4 rfl _).setAt B 5 rfl _
 have Y2 := hid9 (row_chg (F := fun g => g = B) Y1.out g2 hne)
 have X2 : Hid (((w1.setCell ⟨B, 4, none⟩ (.int .i64 (fx - 1))).setCell ⟨B, 5, none⟩ (.int .i64 tb)).heap[B]? = some (.cells #[.int .i64 3, .int .i64 id, .int .i64 (tn : Int), .int .i64 nte, .int .i64 (fx - 1), .int .i64 tb, .int .i64 0, .bool false, .slice none 0 0, .bool false, .slice none 0 0, .slice none 0 0, .slice none 0 0, .slice none 0 0, .slice none 0 0] 57 (0, 0))) := by
  show _ = _
  simpa using set_at 5 (.int .i64 tb) (set_at 4 (.int .i64 (fx - 1)) X1.out)
 have BB2 := hid9 (BB.out.trans (g2.below (fun g _ e => by omega) BB.out.size))
 have CH2 := hid9 (CH.out.trans g2 (fun _ _ e => e))
 have zw2 : w.heap.size < ((w1.setCell ⟨B, 4, none⟩ (.int .i64 (fx - 1))).setCell ⟨B, 5, none⟩ (.int .i64 tb)).heap.size := Nat.lt_of_lt_of_le zw g2.size
 clear g2 X1 Y1 BB CH
 go_upto_region 3 with fail
 generalize ((w1.setCell ⟨B, 4, none⟩ (.int .i64 (fx - 1))).setCell ⟨B, 5, none⟩ (.int .i64 tb)) = V2 at *
 clear d1 f1
 have c1 := fun j => cell_of_cells (j := j) Y2.out
 go_wp2_with fail
 refine (CE.out _ BB2.out).mono ?_
 rintro e w3 ⟨z, rfl, oz, b3⟩
 obtain ⟨x1, hz⟩ := OwnE.sl (OwnE.of_owns oz)
 subst hz
 have Oz := hid9 (OwnI.made (OwnE.of_owns oz))
 replace Y2 := hid9 (step_at Y2.out b3)
 replace X2 := hid9 (step_at X2.out b3)
 replace CH2 := hid9 (CH2.out.trans (Chg.of_below b3) (fun _ _ e => e))
 have z3 := hid9 b3.size
 clear b3 oz c1 BB2 CE CT
 have d1 := fun j => cell_of_cells (j := j) X2.out
 have f1 : ∀ j, w3.frozen? ⟨B, j, none⟩ = false := fun j => frozen_of_cells X2.out
 have g3 : Chg (fun g => g = B) w3 (w3.setCell ⟨B, 8, none⟩ (.slice x1.1 x1.2.1 x1.2.2)) := (Chg.refl (fun g => g = B) w3).setAt B 8 rfl _
 have Y3 := hid9 (row_chg (F := fun g => g = B) Y2.out g3 hne)
 have X3 : Hid ((w3.setCell ⟨B, 8, none⟩ (.slice x1.1 x1.2.1 x1.2.2)).heap[B]? = some (.cells #[.int .i64 3, .int .i64 id, .int .i64 (tn : Int), .int .i64 nte, .int .i64 (fx - 1), .int .i64 tb, .int .i64 0, .bool false, .slice x1.1 x1.2.1 x1.2.2, .bool false, .slice none 0 0, .slice none 0 0, .slice none 0 0, .slice none 0 0, .slice none 0 0] 57 (0, 0))) := by
  show _ = _
  simpa using set_at 8 (.slice x1.1 x1.2.1 x1.2.2) X2.out
 replace Oz := hid9 (Oz.out.but g3 (by have := zw2; omega))
 have CH3 := hid9 (CH2.out.trans g3 (fun _ _ e => e))
 have z4 : Hid (w3.heap.size ≤ (w3.setCell ⟨B, 8, none⟩ (.slice x1.1 x1.2.1 x1.2.2)).heap.size) := g3.size
 clear g3 X2 Y2 CH2
 go_upto_region 4 with fail
 generalize w3.setCell ⟨B, 8, none⟩ (.slice x1.1 x1.2.1 x1.2.2) = V3 at *
 clear d1 f1
 have c1 := fun j => cell_of_cells (j := j) Y3.out
 have d1 := fun j => cell_of_cells (j := j) X3.out
 have f1 : ∀ j, V3.frozen? ⟨B, j, none⟩ = false := fun j => frozen_of_cells X3.out
 have g5 : Chg (fun g => g = B) V3 (V3.setCell ⟨B, 6, none⟩ (.int .i64 ncm)) := (Chg.refl (fun g => g = B) V3).setAt B 6 rfl _
 have K5 : (V3.setCell ⟨B, 6, none⟩ (.int .i64 ncm)).heap[B]? = some (.cells #[.int .i64 3, .int .i64 id, .int .i64 (tn : Int), .int .i64 nte, .int .i64 (fx - 1), .int .i64 tb, .int .i64 ncm, .bool false, .slice x1.1 x1.2.1 x1.2.2, .bool false, .slice none 0 0, .slice none 0 0, .slice none 0 0, .slice none 0 0, .slice none 0 0] 57 (0, 0)) := by simpa using set_at 6 (.int .i64 ncm) X3.out
 have FIN : Hid (∃ K : RpcV, RpcV.like ⟨3, id, tn, nte, fx - 1, tb, ncm, false, .slice none 0 0, zM⟩ K ∧ (V3.setCell ⟨B, 6, none⟩ (.int .i64 ncm)).heap[B]? = some (.cells (rpcArr K) 57 (0, 0)) ∧ RpcDh n (V3.setCell ⟨B, 6, none⟩ (.int .i64 ncm)) w.heap.size (V3.setCell ⟨B, 6, none⟩ (.int .i64 ncm)).heap.size K ⟨entsB lb D.l fx, zT, []⟩ ∧ Chg (fun g => g = B) w (V3.setCell ⟨B, 6, none⟩ (.int .i64 ncm))) :=
  ⟨⟨3, id, tn, nte, fx - 1, tb, ncm, false, .slice x1.1 x1.2.1 x1.2.2, zM⟩, ⟨rfl, rfl, rfl, rfl, rfl, rfl, rfl, rfl⟩, K5,
   ⟨w3.heap.size, w3.heap.size, by have := zw2; have := z3.out; omega, Nat.le_refl _, Nat.le_trans z4.out g5.size, Nat.le_refl _, ⟨(Oz.out.1.chg g5 (fun g hg e => by have := (Oz.out.1.lt g hg).1; omega)).mono (by omega), Oz.out.2⟩, by subst hn'; exact zM_own _ _ _⟩, CH3.out.trans g5 (fun _ _ e => e)⟩
 clear K5 g5 Oz X3 CH3 Y3
 go_wp2
 have FF := FIN.out
 exact bodyPost_end (v := .tuple #[]) (by simp [results, Tryz.results118, go_sem]) rfl ⟨rfl, by unfold rpPu; simp only [FX.out, TB.out]; exact FF⟩
end
end Go.Proofs.YtmdajbbpigbdcaaGreat
