/-
  Contracts of the program's sorted map as a map of pairs: put, drop, get, turned by a message, made of a list.
-/
import Derived.Test.YtccdleafkhnfmaaGreatChange
import Derived.Test.YtccdleafkhnfmaaGreatSortedB
import Derived.Test.YtccdleafkhnfmaaGreatSpecMap
namespace Go.Proofs.YtccdleafkhnfmaaGreat
open Go.RowKit

/-- THE SORTED MAP AT BLOCK B IS THE MAP l. -/
def SrtM (w : World) (B : Nat) (F : Nat → Prop) (l : PL) : Prop := Srt w B F (keys l) (vals l)
theorem SrtM.below {w w' : World} {B : Nat} {F : Nat → Prop} {l : PL} (h : SrtM w B F l) (hb : Below w.heap.size w w') : SrtM w' B F l := Srt.chg h (Chg.of_below (F := fun _ => False) hb) (fun _ _ e => e)

theorem put_map (B : Nat) (F : Nat → Prop) (l : PL) (k v : Int) (w : World) (h : SrtM w B F l) (hs : Asc l) (hbig : l.length ≤ 1048576) :
    Calls Tryz.prog 80 #[.pointer (some ⟨B, 0, none⟩), .int .i64 k, .int .i64 v] w fun e w' =>
      e = .returned (.tuple #[]) ∧ ∃ F', SrtM w' B F' (putF l k v) ∧ Chg F w w' ∧ (∀ g, F' g → F g ∨ w.heap.size ≤ g) := by
  have hl : (vals l).length = (keys l).length := by rw [keys_length, vals_length]
  have hb : (keys l).length ≤ 1048576 := by rw [keys_length]; exact hbig
  cases hf : (keys l).contains k
  · refine (put_new B F (keys l) (vals l) k v w h hs.le hl hb hf).mono ?_
    rintro e w' ⟨rfl, F', h1, h2, h3⟩
    refine ⟨rfl, F', ?_, h2, h3⟩
    obtain ⟨e1, e2⟩ := put_new_keys (v := v) hs hf
    rw [SrtM, e1, e2]; exact h1
  · refine (put_found B F (keys l) (vals l) k v w h hs.le hl hb hf).mono ?_
    rintro e w' ⟨rfl, F', h1, h2, h3⟩
    refine ⟨rfl, F', ?_, h2, h3⟩
    obtain ⟨e1, e2⟩ := put_found_keys (v := v) hs hf
    rw [SrtM, e1, e2]; exact h1

theorem drop_map (B : Nat) (F : Nat → Prop) (l : PL) (k : Int) (w : World) (h : SrtM w B F l) (hs : Asc l) (hbig : l.length ≤ 1048576) :
    Calls Tryz.prog 83 #[.pointer (some ⟨B, 0, none⟩), .int .i64 k] w fun e w' =>
      e = .returned (.tuple #[]) ∧ ∃ F', SrtM w' B F' (delF l k) ∧ Chg F w w' ∧ (∀ g, F' g → F g ∨ w.heap.size ≤ g) := by
  have hl : (vals l).length = (keys l).length := by rw [keys_length, vals_length]
  have hb : (keys l).length ≤ 1048576 := by rw [keys_length]; exact hbig
  cases hf : (keys l).contains k
  · refine (drop_none B F (keys l) (vals l) k w h hs.le hb hf).mono ?_
    rintro e w' ⟨rfl, q, rfl⟩
    refine ⟨rfl, F, ?_, (Chg.refl _ _).drewN q, fun _ hg => Or.inl hg⟩
    rw [del_none hf]
    exact SrtM.below h (below_drewN (Below.refl _ _) q)
  · refine (drop_found B F (keys l) (vals l) k w h hs.le hl hb hf).mono ?_
    rintro e w' ⟨rfl, F', h1, h2, h3⟩
    refine ⟨rfl, F', ?_, h2, h3⟩
    obtain ⟨e1, e2⟩ := del_found_keys hs hf
    rw [SrtM, e1, e2]; exact h1

theorem get_map (B : Nat) (F : Nat → Prop) (l : PL) (k : Int) (w : World) (h : SrtM w B F l) (hs : Asc l) (hbig : l.length ≤ 1048576) :
    Calls Tryz.prog 84 #[.pointer (some ⟨B, 0, none⟩), .int .i64 k] w fun e w' => e = .returned (.tuple #[.int .i64 (getP l k).1, .bool (getP l k).2]) ∧ ∃ q, w' = w.drewN q := by
  have hl : (vals l).length = (keys l).length := by rw [keys_length, vals_length]
  have hb : (keys l).length ≤ 1048576 := by rw [keys_length]; exact hbig
  have := get_any B F (keys l) (vals l) k w h hs.le hl hb
  rw [show getS (keys l) (vals l) k = getP l k from get_keys hs k] at this
  exact this

set_option maxRecDepth 100000 in
set_option maxHeartbeats 2000000 in
theorem turn_any (B : Nat) (F : Nat → Prop) (l : PL) (o k v : Int) (w : World) (h : SrtM w B F l) (hmp : MapP l) (hm : msgOkB o k v = true) (hbig : l.length ≤ 1048576) :
    Calls Tryz.prog 60 #[.pointer (some ⟨B, 0, none⟩), encC (o, k, v)] w fun e w' =>
      e = .returned (.tuple #[]) ∧ ∃ F', SrtM w' B F' (doP l (o, k, v)) ∧ Chg F w w' ∧ (∀ g, F' g → F g ∨ w.heap.size ≤ g) := by
  obtain ⟨⟨ho1, ho4⟩, _, hv0, hv9⟩ := msgOkB_in hm
  obtain ⟨hg0, hg9⟩ := getP_in hmp k
  have ASC : Hid (Asc l) := hmp.1
  have SH : Hid (SrtM w B F l) := h
  clear h hmp hm
  rcases (show o = 1 ∨ o = 2 ∨ o = 3 ∨ o = 4 from by omega) with rfl | rfl | rfl | rfl
  · have E : Hid (doP l (1, k, v) = putF l k v) := by show doP _ _ = _; simp [doP]
    rw [show encC (1, k, v) = .iface 125 (.agg #[.int .i64 k, .int .i64 v]) from rfl]
    have b0 : Below w.heap.size w (w.alloc (.cells #[.int .i64 k, .int .i64 v] 125)) := (Below.refl _ _).alloc (Nat.le_refl _) _
    have S0 : Hid _ := And.intro (SH.out.below b0) b0
    clear b0
    have t99 := ta_99_99 k v
    go_enter Tryz.func60, Tryz.ntmps60
    go_wp2_with fail
    refine (put_map B F l _ _ _ S0.out.1 ASC.out hbig).mono ?_
    rintro e w1 ⟨rfl, F', h1, h2, h3⟩
    have FIN : Hid _ := And.intro h1 (And.intro ((Chg.of_below S0.out.2).trans h2 (fun _ _ e => e)) h3)
    clear h1 h2 h3
    go_wp2
    go_end0
    rw [E.out]
    exact ⟨rfl, F', FIN.out.1, FIN.out.2.1, fun g hg => (FIN.out.2.2 g hg).imp id (fun h => Nat.le_trans S0.out.2.size h)⟩
  · have E : Hid (doP l (2, k, v) = delF l k) := by show doP _ _ = _; simp [doP]
    rw [show encC (2, k, v) = .iface 127 (.agg #[.int .i64 k]) from rfl]
    have b0 : Below w.heap.size w (w.alloc (.cells #[.int .i64 k] 127)) := (Below.refl _ _).alloc (Nat.le_refl _) _
    have S0 : Hid _ := And.intro (SH.out.below b0) b0
    clear b0
    have t99 := ta_105_99 k
    have t105 := ta_105_105 k
    go_enter Tryz.func60, Tryz.ntmps60
    go_wp2_with fail
    refine (drop_map B F l _ _ S0.out.1 ASC.out hbig).mono ?_
    rintro e w1 ⟨rfl, F', h1, h2, h3⟩
    have FIN : Hid _ := And.intro h1 (And.intro ((Chg.of_below S0.out.2).trans h2 (fun _ _ e => e)) h3)
    clear h1 h2 h3
    go_wp2
    go_end0
    rw [E.out]
    exact ⟨rfl, F', FIN.out.1, FIN.out.2.1, fun g hg => (FIN.out.2.2 g hg).imp id (fun h => Nat.le_trans S0.out.2.size h)⟩
  · have E : Hid (doP l (3, k, v) = putF l k (clampI ((getP l k).1 + v))) := by show doP _ _ = _; simp [doP]
    rw [show encC (3, k, v) = .iface 129 (.agg #[.int .i64 k, .int .i64 v]) from rfl]
    have b0 : Below w.heap.size w (w.alloc (.cells #[.int .i64 k, .int .i64 v] 129)) := (Below.refl _ _).alloc (Nat.le_refl _) _
    have S0 : Hid (SrtM (w.alloc (.cells #[.int .i64 k, .int .i64 v] 129)) B F l) := SH.out.below b0
    have B0 : Hid _ := b0
    clear b0
    have t99 := ta_101_99 k v
    have t105 := ta_101_105 k v
    have t101 := ta_101_101 k v
    go_enter Tryz.func60, Tryz.ntmps60
    go_wp2_with fail
    refine (get_map B F l _ _ S0.out ASC.out hbig).mono ?_
    rintro e w1 ⟨rfl, q, rfl⟩
    generalize (getP l k).1 = g at *
    generalize (getP l k).2 = gb at *
    have S1 : Hid (∀ n, SrtM ((w.alloc (.cells #[.int .i64 k, .int .i64 v] 129)).drewN n) B F l) := fun n => S0.out.below (below_drewN (Below.refl _ _) n)
    clear t99 t105 t101
    go_wp2_with fail
    go_region_with (first | (go_at_call 85; refine (limitedSum_any _ _ _ hg0 hg9 hv0 hv9).mono ?_; rintro e w' ⟨rfl, rfl⟩) | (go_at_call 80; refine (put_map B F l _ _ _ (by exact SrtM.below (S1.out q) (Below.refl _ _).drew) ASC.out hbig).mono ?_; rintro e w1 ⟨rfl, F', h1, h2, h3⟩))
    all_goals
      have FIN : Hid _ := And.intro h1 (And.intro ((Chg.of_below (F := F) ((below_drewN B0.out q).drew)).trans h2 (fun _ _ e => e)) h3)
      clear h1 h2 h3
      go_wp2
      go_end0
      rw [E.out]
      exact ⟨rfl, F', FIN.out.1, FIN.out.2.1, fun g' hg' => (FIN.out.2.2 g' hg').imp id (fun h => Nat.le_trans B0.out.size h)⟩
  · have E : Hid (doP l (4, k, v) = l) := by show doP _ _ = _; simp [doP]
    rw [show encC (4, k, v) = .iface 132 (.agg #[.int .i64 k]) from rfl]
    have b0 : Below w.heap.size w (w.alloc (.cells #[.int .i64 k] 132)) := (Below.refl _ _).alloc (Nat.le_refl _) _
    have S0 : Hid _ := And.intro (SH.out.below b0) b0
    clear b0
    have t99 := ta_107_99 k
    have t105 := ta_107_105 k
    have t101 := ta_107_101 k
    have t107 := ta_107_107 k
    go_enter Tryz.func60, Tryz.ntmps60
    go_wp2
    go_end0
    rw [E.out]
    exact ⟨rfl, F, S0.out.1, Chg.of_below S0.out.2, fun g hg => Or.inl hg⟩

theorem putF_end {A : PL} {p : Int × Int} (h : ∀ q ∈ A, q.1 < p.1) : putF A p.1 p.2 = A ++ [p] := by
  have h1 : A.filter (fun q => decide (q.1 < p.1)) = A := List.filter_eq_self.2 (fun q hq => by have := h q hq; simp; omega)
  have h2 : A.filter (fun q => decide (p.1 < q.1)) = [] := List.filter_eq_nil_iff.2 (fun q hq => by have := h q hq; simp; omega)
  rw [putF, h1, h2]
theorem asc_take {l : PL} (h : Asc l) (k : Nat) : Asc (l.take k) := by
  have : keys (l.take k) = (keys l).take k := by simp [keys, List.map_take]
  rw [Asc, this]
  exact List.Pairwise.sublist (List.take_sublist _ _) h
theorem asc_take_lt {l : PL} (h : Asc l) (k : Nat) (hk : k < l.length) : ∀ q ∈ l.take k, q.1 < kOf l k := by
  intro q hq
  obtain ⟨i, hi, rfl⟩ := List.getElem_of_mem hq
  have hik : i < k := by simp at hi; omega
  have hil : i < l.length := by omega
  have := List.pairwise_iff_getElem.1 (List.pairwise_map.1 h) i k hil hk hik
  simp only [kOf, List.getD, List.getElem?_eq_getElem hk, Option.getD_some, List.getElem_take]
  exact this
theorem take_put {l : PL} (h : Asc l) (k : Nat) (hk : k < l.length) : putF (l.take k) (kOf l k) (vOf l k) = l.take (k + 1) := by
  rw [take_succP l k hk]
  exact putF_end (p := (kOf l k, vOf l k)) (asc_take_lt h k hk)

end Go.Proofs.YtccdleafkhnfmaaGreat
