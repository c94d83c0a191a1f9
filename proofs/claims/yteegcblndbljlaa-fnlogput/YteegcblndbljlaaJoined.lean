/-
  The program's joined: parts of lists of entries laid one behind the other into memory of their own.
-/
import Derived.Test.YteegcblndbljlaaEntsSl
import Derived.Test.YteegcblndbljlaaCopyN
namespace Go.Proofs.Yteegcblndbljlaa
open Go.RowKit

abbrev PtL := List (Value × EL)
def ptV (ps : PtL) (j : Nat) : Value := (ps.getD j (.slice none 0 0, [])).1
def ptL (ps : PtL) (j : Nat) : EL := (ps.getD j (.slice none 0 0, [])).2
/-- what the first j parts are together -/
def joinP (ps : PtL) (j : Nat) : EL := ((ps.take j).map (·.2)).flatten
theorem joinP_zero (ps : PtL) : joinP ps 0 = [] := rfl
theorem joinP_succ (ps : PtL) (j : Nat) (h : j < ps.length) : joinP ps (j + 1) = joinP ps j ++ ptL ps j := by
  unfold joinP ptL
  rw [List.take_succ_eq_append_getElem h, List.map_append, List.flatten_append]
  congr 1
  simp [List.getD, h]
theorem joinP_len (ps : PtL) (j : Nat) (h : j < ps.length) : (joinP ps (j + 1)).length = (joinP ps j).length + (ptL ps j).length := by rw [joinP_succ ps j h, List.length_append]
theorem joinP_mono (ps : PtL) : ∀ k j, j + k ≤ ps.length → (joinP ps j).length ≤ (joinP ps (j + k)).length := by
  intro k
  induction k with
  | zero => intro j _; exact Nat.le_refl _
  | succ k ih =>
    intro j h
    have h1 := ih j (by omega)
    have h2 := joinP_len ps (j + k) (by omega)
    rw [show j + (k + 1) = j + k + 1 by omega]
    omega
theorem joinP_le (ps : PtL) (j : Nat) (h : j ≤ ps.length) : (joinP ps j).length ≤ (joinP ps ps.length).length := by
  have := joinP_mono ps (ps.length - j) j (by omega)
  rwa [show j + (ps.length - j) = ps.length by omega] at this
/-- the row when j parts are laid -/
def laidP (ps : PtL) (j : Nat) : List Value := flatE (joinP ps j ++ List.replicate ((joinP ps ps.length).length - (joinP ps j).length) en0)
theorem laidP_length (ps : PtL) (j : Nat) (h : j ≤ ps.length) : (laidP ps j).length = (joinP ps ps.length).length * 6 := by
  unfold laidP; rw [flatE_length, List.length_append, List.length_replicate]; have := joinP_le ps j h; omega
theorem laidP_full (ps : PtL) : laidP ps ps.length = flatE (joinP ps ps.length) := by unfold laidP; simp
theorem laidP_step (ps : PtL) (j : Nat) (h : j < ps.length) : splice (laidP ps j) ((joinP ps j).length * 6) (flatE (ptL ps j)) = laidP ps (j + 1) := by
  have hl := joinP_len ps j h
  have hle := joinP_le ps (j + 1) h
  unfold splice laidP
  obtain ⟨m, hm⟩ : ∃ m, (joinP ps ps.length).length - (joinP ps j).length = (ptL ps j).length + m := ⟨(joinP ps ps.length).length - (joinP ps j).length - (ptL ps j).length, by omega⟩
  rw [hm, show (joinP ps ps.length).length - (joinP ps (j + 1)).length = m by omega, joinP_succ ps j h]
  simp only [flatE_append, flatE_zero]
  rw [List.take_left' (by rw [flatE_length]), List.drop_append, List.drop_of_length_le (by rw [flatE_length]; omega), List.drop_replicate, flatE_length, flatE_length]
  simp only [List.nil_append, List.append_assoc]
  congr 3
  omega

theorem heap_of_full {w : World} {base e n : Nat} {g : Nat} {xs : List Value} (h : w.ownsRow base e 6 (.slice (some ⟨g, 0, none⟩) n n) n xs) : w.heap[g]? = some (.cells xs.toArray e (0, 0)) := by
  obtain ⟨hl, ⟨e1, _⟩ | ⟨g2, cap2, cur, e1, _, e2, h1, h2, h3, h4⟩⟩ := h
  · simp at e1
  · simp at e1
    obtain ⟨rfl, rfl⟩ := e1
    rw [e2]
    have : cur = xs.toArray := by
      apply Array.toList_inj.1
      rw [← h4]
      simp
      rw [List.take_of_length_le (by simp; omega)]
    rw [this]

set_option maxRecDepth 100000 in
set_option maxHeartbeats 4000000 in
theorem joined_any (pv : Value) (ps : PtL) (w : World) (h : Row w pv ps.length (ps.map (·.1))) (hall : ∀ j, j < ps.length → Row w (ptV ps j) (ptL ps j).length (flatE (ptL ps j))) (hs : (joinP ps ps.length).length ≤ 2097152) :
    Calls Try.prog 61 #[pv] w fun e w' => ∃ v', e = .returned v' ∧ w'.ownsRow w.heap.size 39 6 v' (joinP ps ps.length).length (flatE (joinP ps ps.length)) ∧ Below w.heap.size w w' := by
  obtain ⟨a, b, off, cap, rfl, hcap, hmax, ha, hx, -⟩ := h
  obtain ⟨i0, hi0, hz0, hz1, hz2⟩ := info_parts Try.info39
  unfold maxLen at hmax
  have HX : Hid (∀ j, j < ps.length → w.cell? ⟨b, off + j, none⟩ = some (ptV ps j)) := fun j hj => hx j _ (by simp [ptV, List.getD, hj])
  have HA : Hid (∀ j, j < ps.length → Row w (ptV ps j) (ptL ps j).length (flatE (ptL ps j))) := hall
  clear hx hall
  go_enter Try.func61, Try.ntmps61
  go_wp2
  go_loop [3, 12] (fun c i => ∃ j : Nat, j ≤ ps.length ∧ i = .int .i64 j ∧ c = .int .i64 ((joinP ps j).length : Nat)) (fun _ i => ps.length - (intOf i).toNat)
  case atStart => exact ⟨0, Nat.zero_le _, rfl, rfl⟩
  case round =>
    obtain ⟨j, hj, rfl, rfl⟩ := hrel
    by_cases hlt : j < ps.length
    · have hal := ha (by omega)
      subst hal
      obtain ⟨aj, bj, oj, cj, hv, hc1, hc2, -⟩ := HA.out j hlt
      have d0 : w.cell? ⟨b, off + j, none⟩ = some (.slice aj (ptL ps j).length cj) := by rw [HX.out j hlt, hv]
      have hl := joinP_len ps j hlt
      have hle := joinP_le ps (j + 1) hlt
      have HL : Hid _ := hl
      have hb1 : (joinP ps j).length + (ptL ps j).length ≤ 2097152 := by omega
      clear hv hc1 hc2 hl hle
      generalize (joinP ps j).length = cj0 at *
      generalize (ptL ps j).length = lj at *
      go_wp2
      go_round
      case rel => exact ⟨j + 1, by omega, by go_num, by rw [HL.out]; go_num⟩
      case measure => simp [intOf]; omega
    · have hjl : j = ps.length := by omega
      subst hjl
      go_wp2_with (at_make; refine wpList_make_full _ rfl _ _ 24 rfl w.heap.size 39 i0 _ 6 Try.underlying24 hi0 hz0 hz1 .i64 .i64 _ _ (joinP ps ps.length).length rfl rfl rfl rfl ?c1 ?c2 ?c3 ?_)
      case c1 => first | omega | (rw [hz2]; omega)
      case c2 => unfold maxLen; omega
      intro w0 hown0 hgrow0
      have hb0 : Below w.heap.size w w0 := (Below.refl _ _).grown hgrow0 (Nat.le_refl _) (fun k hk => by cases hk)
      have hh0 := heap_of_full hown0
      rw [show (madeCells _ ((joinP ps ps.length).length * 6)).toList = flatE (List.replicate (joinP ps ps.length).length en0) from madeCells_ent _] at hh0
      have HS : Hid (w0.heap[w.heap.size]? = some (.cells (laidP ps 0).toArray 39 (0, 0)) ∧ Below w.heap.size w w0) := ⟨by unfold laidP; rw [joinP_zero]; simpa using hh0, hb0⟩
      clear hgrow0 hown0 hb0 hh0
      go_wp2
      go_loopw [7, 25] (fun c i wr => ∃ j : Nat, j ≤ ps.length ∧ i = .int .i64 j ∧ c = .int .i64 ((joinP ps j).length : Nat) ∧ Hid (wr.heap[w.heap.size]? = some (.cells (laidP ps j).toArray 39 (0, 0))) ∧ Hid (Below w.heap.size w wr))
        (fun _ i _ => ps.length - (intOf i).toNat)
      case atStart => exact ⟨0, Nat.zero_le _, rfl, rfl, HS.out.1, HS.out.2⟩
      case round =>
        obtain ⟨j, hj, rfl, rfl, HC, HB⟩ := hrel
        clear HS
        by_cases hlt : j < ps.length
        · have hal := ha (by omega)
          subst hal
          obtain ⟨aj, bj, oj, cj, hv, hc1, hc2, haj, hxj, -⟩ := HA.out j hlt
          have d0 : wr.cell? ⟨b, off + j, none⟩ = some (.slice aj (ptL ps j).length cj) := by rw [HB.out.cell (by exact cell_lt (HX.out j hlt)), HX.out j hlt, hv]
          have hl := joinP_len ps j hlt
          have hle := joinP_le ps (j + 1) hlt
          have HL : Hid _ := hl
          have HJ : Hid _ := And.intro haj hxj
          have hb1 : (joinP ps j).length + (ptL ps j).length ≤ (joinP ps ps.length).length := by omega
          clear hv hc1 hc2 hl hle haj hxj
          generalize hn0 : (joinP ps j).length = n0 at *
          generalize hn1 : (ptL ps j).length = n1 at *
          generalize hn2 : (joinP ps ps.length).length = n2 at *
          have HN : Hid _ := And.intro hn0 (And.intro hn1 hn2)
          clear hn0 hn1 hn2
          have hsz : (Try.prog.info? 39).map (·.size) = some 6 := by rw [hi0]; simp [hz1]
          have hcl : Hid ((flatE (ptL ps j)).length = n1 * 6) := by show _ = _; rw [flatE_length, HN.out.2.1]
          have hll : Hid ((laidP ps j).length = n2 * 6) := by show _ = _; rw [laidP_length ps j (by omega), HN.out.2.2]
          have hstep : Hid (splice (laidP ps j) (n0 * 6) (flatE (ptL ps j)) = laidP ps (j + 1)) := by show _ = _; have := laidP_step ps j hlt; rw [HN.out.1] at this; exact this
          have hsrc : Hid (0 < n1 → ∃ ad, aj = some ad ∧ ∀ k v, (flatE (ptL ps j))[k]? = some v → wr.cell? (ad.add k) = some v) := fun h0 => by
            refine ⟨⟨bj, oj, none⟩, HJ.out.1 h0, fun k v hk => ?_⟩
            have h1 := HJ.out.2 k v hk
            rw [show (Addr.add ⟨bj, oj, none⟩ k) = ⟨bj, oj + k, none⟩ by simp [Addr.add]]
            rw [HB.out.cell (by exact cell_lt h1)]
            exact h1
          by_cases hq : n2 = n0
          · subst hq
            have hn1 : n1 = 0 := by omega
            subst hn1
            go_wp2_with (refine wpList_copy_N rfl _ _ 24 24 rfl 39 6 0 Try.underlying24 hsz (some ⟨w.heap.size, 0, none⟩) aj 0 0 0 cj rfl rfl w.heap.size (n2 * 6) (laidP ps j) 39 HC.out (flatE (ptL ps j)) rfl hcl.out (fun h => absurd h (Nat.lt_irrefl _)) (by rw [hcl.out, hll.out]; omega) (flatE_one _) w.heap.size w HB.out (Nat.le_refl _) ?_)
            intro w2 HG HB2
            have HG2 : Hid (w2.heap[w.heap.size]? = some (.cells (laidP ps (j + 1)).toArray 39 (0, 0))) := by have := HG.out; rw [hstep.out] at this; exact this
            have HB3 : Hid _ := HB2
            clear HG HB2
            go_wp2
            go_roundw
            case rel => exact ⟨j + 1, by omega, by go_num, by rw [HL.out]; go_num, HG2.out, HB3.out⟩
            case measure => simp [intOf]; omega
          · have hmin : Nat.min n1 (n2 - n0) = n1 := Nat.min_eq_left (by omega)
            have HM : Hid _ := hmin
            clear hmin
            go_wp2_with (refine wpList_copy_N rfl _ _ 24 24 rfl 39 6 n1 Try.underlying24 hsz (some ⟨w.heap.size, n0 * 6, none⟩) aj (n2 - n0) (n2 - n0) n1 cj rfl rfl w.heap.size (n0 * 6) (laidP ps j) 39 HC.out (flatE (ptL ps j)) HM.out hcl.out (fun h => ⟨rfl, hsrc.out h⟩) (by rw [hcl.out, hll.out]; omega) (flatE_one _) w.heap.size w HB.out (Nat.le_refl _) ?_)
            intro w2 HG HB2
            have HG2 : Hid (w2.heap[w.heap.size]? = some (.cells (laidP ps (j + 1)).toArray 39 (0, 0))) := by have := HG.out; rw [hstep.out] at this; exact this
            have HB3 : Hid _ := HB2
            clear HG HB2
            go_wp2
            go_roundw
            case rel => exact ⟨j + 1, by omega, by go_num, by rw [HL.out]; go_num, HG2.out, HB3.out⟩
            case measure => simp [intOf]; omega
        · have hjl : j = ps.length := by omega
          subst hjl
          have FIN : Hid (wr.ownsRow w.heap.size 39 6 (.slice (some ⟨w.heap.size, 0, none⟩) (joinP ps ps.length).length (joinP ps ps.length).length) (joinP ps ps.length).length (flatE (joinP ps ps.length)) ∧ Below w.heap.size w wr) := by
            refine ⟨⟨flatE_length _, .inr ⟨w.heap.size, _, _, rfl, Nat.le_refl _, HC.out, Nat.le_refl _, by unfold maxLen; omega, ?_, ?_⟩⟩, HB.out⟩
            · simp [laidP_full, flatE_length]
            · rw [laidP_full]; simp; rw [List.take_of_length_le (by rw [flatE_length]; omega)]
          clear HC HB HX HA
          go_wp2
          go_ret
          exact ⟨_, rfl, FIN.out⟩

end Go.Proofs.Yteegcblndbljlaa
