/-
  Parts of a list of entries: a slice of it leads to a part of it.
-/
import Derived.Test.YteegcblndbljlaaLogAt
import Derived.Test.YteegcblndbljlaaAppE
namespace Go.Proofs.Yteegcblndbljlaa
open Go.RowKit

theorem OwnE.rowE {w : World} {base e size n : Nat} {v : Value} {xs : List Value} (h : OwnE w base e size v n xs) : Row w v n xs := by
  rcases h with h | ⟨rfl, rfl, g, rfl⟩
  · exact Row.of_owns h
  · exact ⟨some ⟨g, 0, none⟩, g, 0, 0, rfl, Nat.le_refl _, Nat.zero_le _, fun h => absurd h (Nat.lt_irrefl _), fun j u hj => by simp at hj, fun h => by cases h⟩
theorem ownE_apart {w : World} {base e size n : Nat} {v : Value} {xs : List Value} (h : OwnE w base e size v n xs) {B : Nat} {c : Array Value} {t : Nat} (hB : w.heap[B]? = some (.cells c t (0, 0))) (ht : t ≠ e) {g : Nat} (hg : wrB v g) : ¬ g = B := by
  rintro rfl
  obtain ⟨kk, cc, hkk, hc0⟩ := hg
  rcases h with h | ⟨h1, h2, g', h3⟩
  · obtain ⟨_, ⟨e1, _⟩ | ⟨g2, cap2, cur, e1, _, e2, _⟩⟩ := h
    · rw [hkk] at e1; simp at e1
    · rw [hkk] at e1
      simp at e1
      obtain ⟨rfl, rfl, rfl⟩ := e1
      rw [hB] at e2
      simp at e2
      exact ht e2.2
  · rw [hkk] at h3; simp at h3; omega
theorem room_rowE {n bytes : Nat} (h : n ≤ 8388608) (hb : bytes ≤ 256) : 0 + n ≤ maxLen ∧ (0 + n) * bytes ≤ 140737488355328 := by
  constructor
  · unfold maxLen; omega
  · calc (0 + n) * bytes ≤ 8388608 * 256 := Nat.mul_le_mul (by omega) hb
      _ ≤ 140737488355328 := by decide

theorem flatE_part (l : EL) (i j : Nat) : flatE ((l.take j).drop i) = ((flatE l).take (j * 6)).drop (i * 6) := by rw [flatE_drop, flatE_take]
theorem Row.part {w : World} {a : Option Addr} {cap : Nat} {l : EL} (h : Row w (.slice a l.length cap) l.length (flatE l)) {i j m : Nat} (hij : i ≤ j) (hjl : j ≤ l.length) (hjm : j ≤ m) (hm : m ≤ cap) :
    Row w (.slice (if m = i then a else a.map (·.add (i * 6))) (j - i) (m - i)) (j - i) (flatE ((l.take j).drop i)) := by
  obtain ⟨a', b, off, cap', hv, h2, h3, h4, h5, h6⟩ := h
  simp at hv
  obtain ⟨rfl, rfl⟩ := hv
  refine ⟨_, b, off + i * 6, _, rfl, by omega, by omega, fun h0 => ?_, fun k u hk => ?_, fun hn => ?_⟩
  · rw [if_neg (by omega), h4 (by omega)]; simp [Addr.add]
  · rw [flatE_part, List.getElem?_drop, List.getElem?_take] at hk
    split at hk
    · have := h5 _ u hk
      rw [Nat.add_assoc]
      exact this
    · cases hk
  · by_cases hmi : m = i
    · omega
    · rw [if_neg hmi] at hn
      have : a = none := by simpa using hn
      have := h6 this
      omega

/-- the entries from number i on -/
def entsB (b : Int) (l : EL) (i : Int) : EL := match placeB b l i with | some n => l.drop n | none => []
theorem entsB_none {b : Int} {l : EL} {i : Int} (h : placeB b l i = none) : entsB b l i = [] := by unfold entsB; rw [h]
theorem entsB_some {b : Int} {l : EL} {i : Int} {n : Nat} (h : placeB b l i = some n) : entsB b l i = l.drop n := by unfold entsB; rw [h]
theorem entsB_to {b : Int} {l : EL} {i : Int} {n : Nat} (hn : i - b = n + 1) (hle : n ≤ l.length) : entsB b l i = l.drop n := by
  by_cases h : n < l.length
  · exact entsB_some (placeB_at h (by omega))
  · rw [entsB_none (placeB_far (by omega)), List.drop_of_length_le (by omega)]
theorem entsB_len (b : Int) (l : EL) (i : Int) : (entsB b l i).length ≤ l.length := by
  unfold entsB
  cases placeB b l i with
  | none => exact Nat.zero_le _
  | some n => rw [List.length_drop]; omega
theorem far_i64' {b i : Int} {n : Nat} (hb : I64 b) (hi : I64 i) (h : b < i) (hn : ¬ i - b - 1 ≤ n) : inB (wrap64 (wrap64 (i - b) - 1)) 0 (n : Int) = false := by
  have := far_i64 (n := n + 1) hb hi h (by omega)
  rwa [show (((n + 1 : Nat) : Int) - 1) = (n : Int) by omega] at this

set_option maxRecDepth 100000 in
set_option maxHeartbeats 2000000 in
theorem specEntriesFrom_any (b bt : Int) (v : Value) (l : EL) (i : Int) (w : World) (h : Row w v l.length (flatE l)) (hb : I64 b) (hi : I64 i) (hs : l.length ≤ 2097152) :
    Calls Try.prog 27 #[lgV b bt v, .int .i64 i] w fun e w' => ∃ v', e = .returned v' ∧ OwnE w' w.heap.size 39 6 v' (entsB b l i).length (flatE (entsB b l i)) ∧ Below w.heap.size w w' := by
  obtain ⟨i0, hi0, hz0, hz1, hz2⟩ := info_parts Try.info39
  obtain ⟨a, bb, off, cap, rfl, hcap, hmax, -⟩ := h.ents
  unfold maxLen at hmax
  have B1 : Hid (Below w.heap.size w ((w.alloc (.cells #[.int .i64 b, .int .i64 bt, .slice a l.length cap] 26)).alloc (.cells #[] 39))) := Below.and (bel_nw _ _) (bel_nw _ _)
  have HH : Hid _ := And.intro h (And.intro hb hi)
  clear h hb hi
  by_cases h1 : i ≤ b
  · have E : Hid (entsB b l i = []) := entsB_none (placeB_le h1)
    go_enter Try.func27, Try.ntmps27
    go_wp2_with (go_at_call 57; refine (l1In_any _ _ _ _).mono ?_; rintro e w' ⟨rfl, rfl⟩)
    go_ret
    exact ⟨_, rfl, by rw [E.out]; exact OwnE.zero _ _ _ _ _, B1.out⟩
  · by_cases h2 : i - b - 1 ≤ l.length
    · obtain ⟨n, hn⟩ : ∃ n : Nat, i - b = n + 1 := ⟨(i - b - 1).toNat, by omega⟩
      have hle : n ≤ l.length := by omega
      have E : Hid (entsB b l i = l.drop n) := entsB_to hn hle
      have hi2 : inB (n : Int) 0 (l.length : Int) = true := inB_true (by omega) (by omega)
      obtain ⟨a2, ha2⟩ : ∃ a2, (if cap = n then a else a.map (·.add (n * 6))) = a2 := ⟨_, rfl⟩
      have P1 : Hid (Row w (.slice a2 (l.length - n) (cap - n)) (l.length - n) (flatE (l.drop n))) := by
        have := HH.out.1.part hle (Nat.le_refl _) hcap (Nat.le_refl cap)
        rw [ha2, List.take_length] at this
        exact this
      have Z1 : Hid _ := room_rowE (n := l.length - n) (bytes := 48) (by omega) (by decide)
      have hlen : Hid ((flatE (l.drop n)).length = (l.length - n) * 6) := by show _ = _; rw [flatE_length, List.length_drop]
      clear h2
      go_enter Try.func27, Try.ntmps27
      go_wp2_with (first | (go_at_call 57; refine (l1In_any _ _ _ _).mono ?_; rintro e w' ⟨rfl, rfl⟩) | (at_builtin; refine list_appE ((w.alloc (.cells #[.int .i64 b, .int .i64 bt, .slice a l.length cap] 26)).alloc (.cells #[] 39)) rfl _ _ 24 rfl w.heap.size 39 i0 _ 6 48 Try.underlying24 hi0 hz0 hz1 hz2 rfl (by decide) (.slice (some ⟨w.heap.size + 1, 0, none⟩) 0 0) 0 [] rfl (OwnE.zero _ _ _ _ _) (.slice a2 (l.length - n) (cap - n)) (l.length - n) (flatE (l.drop n)) rfl (P1.out.below B1.out) hlen.out (flatE_one _) Z1.out.1 Z1.out.2 B1.out.size ?_))
      intro v' w' AP
      have FIN : Hid (OwnE w' w.heap.size 39 6 v' (entsB b l i).length (flatE (entsB b l i)) ∧ Below w.heap.size w w') := by
        have := AP.1
        show _ ∧ _
        rw [E.out, List.length_drop]
        exact ⟨by simpa using this, B1.out.trans AP.2.2.1⟩
      clear AP
      go_wp2
      go_ret
      exact ⟨_, rfl, FIN.out⟩
    · have hf := far_i64' HH.out.2.1 HH.out.2.2 (show b < i by omega) h2
      have E : Hid (entsB b l i = []) := entsB_none (placeB_far (by omega))
      clear h2
      go_enter Try.func27, Try.ntmps27
      go_wp2_with (go_at_call 57; refine (l1In_any _ _ _ _).mono ?_; rintro e w' ⟨rfl, rfl⟩)
      go_ret
      exact ⟨_, rfl, by rw [E.out]; exact OwnE.zero _ _ _ _ _, B1.out⟩

end Go.Proofs.Yteegcblndbljlaa
