/-
  Marks that are written into a row of structs, and into what each of them leads to: where one stands between two writes.
  The laws' own functions that write marks into a list of what was done last, and look for them.
  The laws' own functions that write marks into a list of truths, and look for them.
  The laws' own functions that write marks into a list of entries, and look for them.
-/
import Derived.Test.YtkcaelfkcepdkaaGreatOfSend1
import Derived.Test.YtkcaelfkcepdkaaGreatOfSend9
import Derived.Test.YtkcaelfkcepdkaaGreatOfSend2
import Derived.Test.YtkcaelfkcepdkaaGreatOfSend5
import Derived.Test.YtkcaelfkcepdkaaGreatOfSend4
namespace Go.Proofs.YtkcaelfkcepdkaaGreat
set_option maxRecDepth 100000
set_option maxHeartbeats 8000000
section
open Go.RowKit

theorem AllK.set1 {K : Nat} : ∀ {ls : List (List Value)}, AllK K ls → ∀ (i : Nat) (h : i < ls.length) (q : Nat), q < K → ∀ (v : Value), ls.flatten.set (i * K + q) v = (ls.set i (ls[i].set q v)).flatten
 | [], _, i, h, _, _, _ => by simp at h
 | a :: l, hk, 0, _, q, hq, v => by
  have ha := hk a (by simp)
  rw [Nat.zero_mul, Nat.zero_add, List.flatten_cons, List.set_append_left _ _ (by rw [ha]; exact hq)]
  rfl
 | a :: l, hk, i + 1, h, q, hq, v => by
  have ha := hk a (by simp)
  rw [List.flatten_cons, List.set_append_right _ _ (by rw [ha, Nat.succ_mul]; omega), ha, show (i + 1) * K + q - K = i * K + q by rw [Nat.succ_mul]; omega]
  have ih := AllK.set1 (K := K) (ls := l) (fun x hx => hk x (by simp [hx])) i (by simpa using h) q hq v
  rw [ih]
  rfl
def rowH (fin cs : Nat → List Value) (c : List Value) (m j : Nat) : List (List Value) := (List.range m).map fun i => if i < j then fin i else if i = j then c else cs i
theorem rowH_len (fin cs : Nat → List Value) (c : List Value) (m j : Nat) : (rowH fin cs c m j).length = m := by simp [rowH]
theorem rowH_all {fin cs : Nat → List Value} {c : List Value} {m j K : Nat} (h1 : ∀ i, (fin i).length = K) (h2 : ∀ i, (cs i).length = K) (h3 : c.length = K) : AllK K (rowH fin cs c m j) := fun l hl => by
 obtain ⟨i, _, rfl⟩ := List.mem_map.1 hl
 split
 ·exact h1 i
 ·split
  ·exact h3
  ·exact h2 i
theorem rowH_at {fin cs : Nat → List Value} {c : List Value} {m j : Nat} (h : j < (rowH fin cs c m j).length) : (rowH fin cs c m j)[j] = c := by simp [rowH]
theorem rowH_set {fin cs : Nat → List Value} {c d : List Value} {m j : Nat} : (rowH fin cs c m j).set j d = rowH fin cs d m j := by
 apply List.ext_getElem
 ·simp [rowH]
 ·intro i h1 h2
  rw [List.getElem_set]
  split
  ·subst_vars; simp [rowH]
  ·rename_i h
   simp only [rowH, List.getElem_map, List.getElem_range]
   rw [if_neg (Ne.symm h), if_neg (Ne.symm h)]
theorem rowH_next {fin cs : Nat → List Value} {m j : Nat} : rowH fin cs (fin j) m j = rowH fin cs (cs (j + 1)) m (j + 1) := by
 apply List.map_congr_left
 intro i _
 by_cases h1 : i < j
 ·rw [if_pos h1, if_pos (by omega)]
 ·by_cases h2 : i = j
  ·subst h2; rw [if_neg h1, if_pos rfl, if_pos (by omega)]
  ·rw [if_neg h1, if_neg h2, if_neg (by omega)]
   split
   ·subst_vars; rfl
   ·rfl
theorem rowH_start {fin cs : Nat → List Value} {m : Nat} : rowH fin cs (cs 0) m 0 = (List.range m).map cs := by
 apply List.map_congr_left
 intro i _
 rw [if_neg (by omega)]
 split
 ·subst_vars; rfl
 ·rfl
theorem rowH_end {fin cs : Nat → List Value} {c : List Value} {m : Nat} : rowH fin cs c m m = (List.range m).map fin := by
 apply List.map_congr_left
 intro i hi
 rw [if_pos (List.mem_range.1 hi)]

structure Fam (F : Nat → Nat → Nat → Prop) (P Q : Nat → Nat → World → Prop) (g m : Nat) : Prop where
 dis : ∀ i r i' r' b, i < m → i' < m → F i r b → F i' r' b → i = i' ∧ r = r'
 off : ∀ i r b, i < m → F i r b → b ≠ g
 kP : ∀ i r (S : Nat → Prop) w w', i < m → P i r w → Chg S w w' → (∀ b, F i r b → ¬ S b) → P i r w'
 kQ : ∀ i r (S : Nat → Prop) w w', i < m → Q i r w → Chg S w w' → (∀ b, F i r b → ¬ S b) → Q i r w'
structure StM (F : Nat → Nat → Nat → Prop) (P Q : Nat → Nat → World → Prop) (fin cs : Nat → List Value) (ty K g m cap : Nat) (w0 : World) (j s : Nat) (c : List Value) (W : World) : Prop where
 own : W.ownsRow 0 ty K (.slice (some ⟨g, 0, none⟩) m cap) m (rowH fin cs c m j).flatten
 len : c.length = K
 done : ∀ i r, i < m → (i < j ∨ (i = j ∧ r < s)) → Q i r W
 rest : ∀ i r, i < m → ¬ (i < j ∨ (i = j ∧ r < s)) → P i r W
 chg : Chg (fun b => b = g ∨ ∃ i r, i < m ∧ F i r b) w0 W

section
variable {F : Nat → Nat → Nat → Prop} {P Q : Nat → Nat → World → Prop} {fin cs : Nat → List Value} {ty K g m cap : Nat} {w0 : World} {j s : Nat} {c : List Value} {W W' : World}

theorem StM.cell (h : StM F P Q fin cs ty K g m cap w0 j s c W) (hf : (∀ i, (fin i).length = K) ∧ ∀ i, (cs i).length = K) (hj : j < m) (q : Nat) (hq : q < K) : W.cell? ⟨g, j * K + q, none⟩ = c[q]? := by
 have hle : j * K + K ≤ m * K := by rw [← Nat.succ_mul]; exact Nat.mul_le_mul_right _ hj
 rw [h.own.cellAt (j * K + q) (by omega), (rowH_all hf.1 hf.2 h.len).at j (by rw [rowH_len]; exact hj) q hq, rowH_at]
theorem StM.frozen (h : StM F P Q fin cs ty K g m cap w0 j s c W) (q : Nat) : W.frozen? ⟨g, j * K + q, none⟩ = false := h.own.frozenAt _
theorem StM.put (fam : Fam F P Q g m) (h : StM F P Q fin cs ty K g m cap w0 j s c W) (hf : (∀ i, (fin i).length = K) ∧ ∀ i, (cs i).length = K) (hj : j < m) (q : Nat) (hq : q < K) (v : Value) : StM F P Q fin cs ty K g m cap w0 j s (c.set q v) (W.setCell ⟨g, j * K + q, none⟩ v) := by
 have hc : Chg (fun b => b = g) W (W.setCell ⟨g, j * K + q, none⟩ v) := (Chg.refl (fun b => b = g) W).setAt g (j * K + q) rfl _
 have ho := (h.own.stored (j * K + q) v).1
 rw [(rowH_all hf.1 hf.2 h.len).set1 j (by rw [rowH_len]; exact hj) q hq v, rowH_at, rowH_set] at ho
 exact ⟨ho, by rw [List.length_set]; exact h.len, fun i r hi hd => fam.kQ i r _ _ _ hi (h.done i r hi hd) hc (fun b hb e => fam.off i r b hi hb e), fun i r hi hd => fam.kP i r _ _ _ hi (h.rest i r hi hd) hc (fun b hb e => fam.off i r b hi hb e), h.chg.trans hc (fun b _ e => .inl e)⟩
theorem StM.now (h : StM F P Q fin cs ty K g m cap w0 j s c W) (hj : j < m) : P j s W := h.rest j s hj (by omega)
theorem StM.call (fam : Fam F P Q g m) (h : StM F P Q fin cs ty K g m cap w0 j s c W) (hj : j < m) (hq : Q j s W') (hc : Chg (F j s) W W') : StM F P Q fin cs ty K g m cap w0 j (s + 1) c W' := by
 refine ⟨?_, h.len, fun i r hi hd => ?_, fun i r hi hd => ?_, h.chg.trans hc (fun b _ e => .inr ⟨j, s, hj, e⟩)⟩
 ·exact owns_chg h.own hc (fun b hb e => fam.off j s b hj e (by simp [Value.ownBlock] at hb; exact hb.symm))
 ·by_cases h1 : i < j ∨ (i = j ∧ r < s)
  ·exact fam.kQ i r _ _ _ hi (h.done i r hi h1) hc (fun b hb e => by
    have := fam.dis i r j s b hi hj hb e
    omega)
  ·have h2 : i = j ∧ r = s := by omega
   rw [h2.1, h2.2]
   exact hq
 ·exact fam.kP i r _ _ _ hi (h.rest i r hi (by omega)) hc (fun b hb e => by
   have := fam.dis i r j s b hi hj hb e
   omega)
theorem StM.next (h : StM F P Q fin cs ty K g m cap w0 j s c W) (hc : c = fin j) (hl : (cs (j + 1)).length = K) (hs : ∀ i r W, s ≤ r → i < m → Q i r W) : StM F P Q fin cs ty K g m cap w0 (j + 1) 0 (cs (j + 1)) W := by
 subst hc
 exact ⟨by rw [← rowH_next]; exact h.own, hl, fun i r hi hd => by
  by_cases h1 : i < j ∨ (i = j ∧ r < s)
  ·exact h.done i r hi h1
  ·exact hs i r W (by omega) hi, fun i r hi hd => h.rest i r hi (by omega), h.chg⟩
end
end
section
open Go.RowKit

abbrev mrk (k : Int) : Bool := k % 3 == 0
def marksD (k : Int) (n : Nat) : DL := (List.range n).map fun (i : Nat) => (k + 4 * i, k + 4 * i + 1, k + 4 * i + 1 + 1, mrk (k + 4 * i + 1 + 1 + 1))
theorem marksD_length (k : Int) (n : Nat) : (marksD k n).length = n := by simp [marksD]
theorem marksD_succ (k : Int) (n : Nat) : marksD k (n + 1) = marksD k n ++ [(k + 4 * n, k + 4 * n + 1, k + 4 * n + 1 + 1, mrk (k + 4 * n + 1 + 1 + 1))] := by simp [marksD, List.range_succ]
theorem marksD_at (k : Int) (n i : Nat) (h : i < n) : dC (marksD k n) i = k + 4 * i ∧ dS (marksD k n) i = k + 4 * i + 1 ∧ dV (marksD k n) i = k + 4 * i + 1 + 1 ∧ dH (marksD k n) i = mrk (k + 4 * i + 1 + 1 + 1) := by
 simp [marksD, dC, dS, dV, dH, List.getD, h]
def midD (k : Int) (l : DL) (i : Nat) : DL := marksD k i ++ l.drop i
theorem midD_length (k : Int) (l : DL) (i : Nat) (h : i ≤ l.length) : (midD k l i).length = l.length := by simp [midD, marksD_length]; omega
theorem midD_zero (k : Int) (l : DL) : midD k l 0 = l := by simp [midD, marksD]
theorem midD_full (k : Int) (l : DL) : midD k l l.length = marksD k l.length := by simp [midD]
theorem midD_step (k : Int) (l : DL) (i : Nat) (h : i < l.length) : (midD k l i).set i (k + 4 * i, k + 4 * i + 1, k + 4 * i + 1 + 1, mrk (k + 4 * i + 1 + 1 + 1)) = midD k l (i + 1) := by
 rw [midD, midD, marksD_succ, List.drop_eq_getElem_cons h, List.set_append_right _ _ (by rw [marksD_length]; omega), marksD_length, Nat.sub_self, List.set_cons_zero]
 simp
theorem owns_capD {w : World} {base e size n cap : Nat} {a : Option Addr} {xs : List Value} (h : w.ownsRow base e size (.slice a n cap) n xs) : cap ≤ maxLen := by
 obtain ⟨_, ⟨e, _⟩ | ⟨g, cap', cur, e, _, _, _, hc, _⟩⟩ := h
 ·simp at e; rw [e.2.2]; exact Nat.zero_le _
 ·simp at e; rw [e.2]; exact hc

theorem markDoneS_any (v : Value) (l : DL) (k : Int) (w : World) (h : w.ownsRow 0 141 4 v l.length (flatD l)) (hn : l.length ≤ 67108864) (hk0 : 0 ≤ k) (hk1 : k ≤ 671088640) :
  Calls Tryz.prog 43 #[v, .int .i64 k] w fun e w' => e = .returned (.int .i64 (k + 4 * l.length)) ∧ w'.ownsRow 0 141 4 v l.length (flatD (marksD k l.length)) ∧ Chg (fun g => v.ownBlock = some g) w w' := by
 obtain ⟨a, cap, hv⟩ := owns_val h
 have OW : Hid (w.ownsRow 0 141 4 v l.length (flatD l)) := h
 clear h
 rw [hv] at OW ⊢
 clear hv
 have hcap := owns_capD OW.out
 unfold maxLen at hcap
 go_enter Tryz.func43, Tryz.ntmps43
 go_wp2
 go_loopw [1, 5] (fun kk i wr => ∃ j : Nat, j ≤ l.length ∧ i = .int .i64 j ∧ kk = .int .i64 (k + 4 * j) ∧ wr.ownsRow 0 141 4 (.slice a l.length cap) l.length (flatD (midD k l j)) ∧ Chg (fun g => (Value.slice a l.length cap).ownBlock = some g) w wr)
  (fun _ i _ => l.length - (intOf i).toNat)
 case atStart => exact ⟨0, Nat.zero_le _, rfl, by simp, by rw [midD_zero]; exact OW.out, Chg.refl _ _⟩
 case round =>
  obtain ⟨j, hj, rfl, rfl, hown, hch⟩ := hrel
  by_cases hlt : j < l.length
  ·have hex : ∃ g, a = some ⟨g, 0, none⟩ := by
    obtain ⟨_, ⟨e, e2⟩ | ⟨g, cap', cur, e, _⟩⟩ := hown
    ·omega
    ·simp at e; exact ⟨g, e.1⟩
   obtain ⟨g, rfl⟩ := hex
   have hml : (midD k l j).length = l.length := midD_length k l j hj
   have hat := flatD_at (midD k l j) j (by omega)
   have e0 := (hown.cellAt (j * 4) (by omega)).trans hat.1
   have f0 := hown.frozenAt (j * 4)
   have e1 := (hown.cellAt (j * 4 + 1) (by omega)).trans hat.2.1
   have f1 := hown.frozenAt (j * 4 + 1)
   have e2 := (hown.cellAt (j * 4 + 2) (by omega)).trans hat.2.2.1
   have f2 := hown.frozenAt (j * 4 + 2)
   have e3 := (hown.cellAt (j * 4 + 3) (by omega)).trans hat.2.2.2
   have f3 := hown.frozenAt (j * 4 + 3)
   have st0 := (hown.stored (j * 4) (.int .i64 (k + 4 * j))).1
   have st1 := (st0.stored (j * 4 + 1) (.int .i64 (k + 4 * j + 1))).1
   have st2 := (st1.stored (j * 4 + 2) (.int .i64 (k + 4 * j + 1 + 1))).1
   have st3 := (st2.stored (j * 4 + 3) (.bool (mrk (k + 4 * j + 1 + 1 + 1)))).1
   rw [flatD_set _ _ _ _ _ j (by omega), midD_step k l j hlt] at st3
   have hch2 : Chg (fun g' => (Value.slice (some ⟨g, 0, none⟩) l.length cap).ownBlock = some g') w ((((wr.setCell ⟨g, j * 4, none⟩ (.int .i64 (k + 4 * j))).setCell ⟨g, j * 4 + 1, none⟩ (.int .i64 (k + 4 * j + 1))).setCell ⟨g, j * 4 + 2, none⟩ (.int .i64 (k + 4 * j + 1 + 1))).setCell ⟨g, j * 4 + 3, none⟩ (.bool (mrk (k + 4 * j + 1 + 1 + 1)))) := (((hch.setAt g (j * 4) rfl _).setAt g (j * 4 + 1) rfl _).setAt g (j * 4 + 2) rfl _).setAt g (j * 4 + 3) rfl _
   generalize dC (midD k l j) j = x0 at *
   generalize dS (midD k l j) j = x1 at *
   generalize dV (midD k l j) j = x2 at *
   generalize dH (midD k l j) j = x3 at *
   have ST : Hid _ := And.intro st3 hch2
   clear st0 st1 st2 st3 hch2 hown hch hml hat OW
   have hb0 : 0 ≤ k + 4 * (j : Int) := by omega
   have hb1 : k + 4 * (j : Int) ≤ 10000000000 := by omega
   go_wp2
   go_roundw
   case rel => exact ⟨j + 1, by omega, by go_num, by go_num, ST.out.1, ST.out.2⟩
   case measure => simp [intOf]; omega
  ·have hjl : j = l.length := by omega
   subst hjl
   go_wp2
   go_ret
   rw [midD_full] at hown
   exact ⟨rfl, hown, hch⟩

theorem heldDoneS_any (v : Value) (n : Nat) (k : Int) (w : World) (h : Row w v n (flatD (marksD k n))) (hn : n ≤ 67108864) (hk0 : 0 ≤ k) (hk1 : k ≤ 671088640) :
  Calls Tryz.prog 53 #[v, .int .i64 k] w fun e w' => e = .returned (.int .i64 (k + 4 * n)) ∧ w' = w := by
 have h' : Row w v (marksD k n).length (flatD (marksD k n)) := by rw [marksD_length]; exact h
 obtain ⟨a, b, off, cap, rfl, hcap, hmax, ha, h10, h11, h12, h13⟩ := h'.dones
 rw [marksD_length] at *
 unfold maxLen at hmax
 clear h h'
 go_enter Tryz.func53, Tryz.ntmps53
 go_wp2
 go_loop [1, 5] (fun kk i => ∃ j : Nat, j ≤ n ∧ i = .int .i64 j ∧ kk = .int .i64 (k + 4 * j)) (fun _ i => n - (intOf i).toNat)
 case atStart => exact ⟨0, Nat.zero_le _, rfl, by simp⟩
 case round =>
  obtain ⟨j, hj, rfl, rfl⟩ := hrel
  by_cases hlt : j < n
  ·have hal := ha (by omega)
   subst hal
   have d0 : w.cell? ⟨b, off + j * 4, none⟩ = some (.int .i64 (k + 4 * j)) := by rw [h10 j hlt, (marksD_at k n j hlt).1]
   have d1 : w.cell? ⟨b, off + j * 4 + 1, none⟩ = some (.int .i64 (k + 4 * j + 1)) := by rw [h11 j hlt, (marksD_at k n j hlt).2.1]
   have d2 : w.cell? ⟨b, off + j * 4 + 2, none⟩ = some (.int .i64 (k + 4 * j + 1 + 1)) := by rw [h12 j hlt, (marksD_at k n j hlt).2.2.1]
   have d3 : w.cell? ⟨b, off + j * 4 + 3, none⟩ = some (.bool (mrk (k + 4 * j + 1 + 1 + 1))) := by rw [h13 j hlt, (marksD_at k n j hlt).2.2.2]
   clear h10 h11 h12 h13
   have hb0 : 0 ≤ k + 4 * (j : Int) := by omega
   have hb1 : k + 4 * (j : Int) ≤ 10000000000 := by omega
   by_cases hm : (k + 4 * (j : Int) + 1 + 1 + 1) % 3 = 0
   ·have hm2 : mrk (k + 4 * (j : Int) + 1 + 1 + 1) = true := by simp [mrk, hm]
    rw [hm2] at d3
    have hm3 : ((k + 4 * (j : Int) + 1 + 1 + 1) % 3 == 0) = true := hm2
    go_wp2
    go_round
    case rel => exact ⟨j + 1, by omega, by go_num, by go_num⟩
    case measure => simp [intOf]; omega
   ·have hm2 : mrk (k + 4 * (j : Int) + 1 + 1 + 1) = false := by simp [mrk, hm]
    rw [hm2] at d3
    have hm3 : ((k + 4 * (j : Int) + 1 + 1 + 1) % 3 == 0) = false := hm2
    go_wp2
    go_round
    case rel => exact ⟨j + 1, by omega, by go_num, by go_num⟩
    case measure => simp [intOf]; omega
  ·have hjl : j = n := by omega
   subst hjl
   go_wp2
   go_ret
   exact ⟨rfl, rfl⟩
end
section
open Go.RowKit

def marksL (k : Int) (n : Nat) : List Bool := (List.range n).map fun (i : Nat) => mrk (k + i)
theorem marksL_length (k : Int) (n : Nat) : (marksL k n).length = n := by simp [marksL]
theorem marksL_succ (k : Int) (n : Nat) : marksL k (n + 1) = marksL k n ++ [mrk (k + n)] := by simp [marksL, List.range_succ]
theorem marksL_at (k : Int) (n i : Nat) (h : i < n) : bOf (marksL k n) i = mrk (k + i) := by simp [marksL, bOf, List.getD, h]
def midL (k : Int) (l : List Bool) (i : Nat) : List Bool := marksL k i ++ l.drop i
theorem midL_length (k : Int) (l : List Bool) (i : Nat) (h : i ≤ l.length) : (midL k l i).length = l.length := by simp [midL, marksL_length]; omega
theorem midL_zero (k : Int) (l : List Bool) : midL k l 0 = l := by simp [midL, marksL]
theorem midL_full (k : Int) (l : List Bool) : midL k l l.length = marksL k l.length := by simp [midL]
theorem midL_step (k : Int) (l : List Bool) (i : Nat) (h : i < l.length) : (midL k l i).set i (mrk (k + i)) = midL k l (i + 1) := by
 rw [midL, midL, marksL_succ, List.drop_eq_getElem_cons h, List.set_append_right _ _ (by rw [marksL_length]; omega), marksL_length, Nat.sub_self, List.set_cons_zero]
 simp

theorem markBoolS_m (v : Value) (l : List Bool) (k : Int) (w : World) (h : w.ownsRow 0 4 1 v l.length (flatL l)) (hn : l.length ≤ 67108864) (hk0 : 0 ≤ k) (hk1 : k ≤ 671088640) :
  Calls Tryz.prog 73 #[v, .int .i64 k] w fun e w' => e = .returned (.int .i64 (k + l.length)) ∧ w'.ownsRow 0 4 1 v l.length (flatL (marksL k l.length)) ∧ Chg (fun g => v.ownBlock = some g) w w' := by
 obtain ⟨a, cap, hv⟩ := owns_val h
 have OW : Hid (w.ownsRow 0 4 1 v l.length (flatL l)) := h
 clear h
 rw [hv] at OW ⊢
 clear hv
 have hcap := owns_capD OW.out
 unfold maxLen at hcap
 go_enter Tryz.func73, Tryz.ntmps73
 go_wp2
 go_loopw [1, 5] (fun kk i wr => ∃ j : Nat, j ≤ l.length ∧ i = .int .i64 j ∧ kk = .int .i64 (k + j) ∧ wr.ownsRow 0 4 1 (.slice a l.length cap) l.length (flatL (midL k l j)) ∧ Chg (fun g => (Value.slice a l.length cap).ownBlock = some g) w wr)
  (fun _ i _ => l.length - (intOf i).toNat)
 case atStart => exact ⟨0, Nat.zero_le _, rfl, by simp, by rw [midL_zero]; exact OW.out, Chg.refl _ _⟩
 case round =>
  obtain ⟨j, hj, rfl, rfl, hown, hch⟩ := hrel
  by_cases hlt : j < l.length
  ·have hex : ∃ g, a = some ⟨g, 0, none⟩ := by
    obtain ⟨_, ⟨e, e2⟩ | ⟨g, cap', cur, e, _⟩⟩ := hown
    ·omega
    ·simp at e; exact ⟨g, e.1⟩
   obtain ⟨g, rfl⟩ := hex
   have hml : (midL k l j).length = l.length := midL_length k l j hj
   have hat := flatL_at (midL k l j) j (by omega)
   have e0 := (hown.cellAt j (by omega)).trans hat
   have f0 := hown.frozenAt j
   have st0 := (hown.stored j (.bool (mrk (k + j)))).1
   rw [flatL_set, midL_step k l j hlt] at st0
   have hch2 : Chg (fun g' => (Value.slice (some ⟨g, 0, none⟩) l.length cap).ownBlock = some g') w (wr.setCell ⟨g, j, none⟩ (.bool (mrk (k + j)))) := hch.setAt g j rfl _
   generalize bOf (midL k l j) j = x0 at *
   have ST : Hid _ := And.intro st0 hch2
   clear st0 hch2 hown hch hml hat OW
   have hb0 : 0 ≤ k + (j : Int) := by omega
   have hb1 : k + (j : Int) ≤ 10000000000 := by omega
   go_wp2
   go_roundw
   case rel => exact ⟨j + 1, by omega, by go_num, by go_num, ST.out.1, ST.out.2⟩
   case measure => simp [intOf]; omega
  ·have hjl : j = l.length := by omega
   subst hjl
   go_wp2
   go_ret
   rw [midL_full] at hown
   exact ⟨rfl, hown, hch⟩

theorem heldBoolS_any (v : Value) (n : Nat) (k : Int) (w : World) (h : Row w v n (flatL (marksL k n))) (hn : n ≤ 67108864) (hk0 : 0 ≤ k) (hk1 : k ≤ 671088640) :
  Calls Tryz.prog 95 #[v, .int .i64 k] w fun e w' => e = .returned (.int .i64 (k + n)) ∧ w' = w := by
 have h' : Row w v (marksL k n).length (flatL (marksL k n)) := by rw [marksL_length]; exact h
 obtain ⟨a, b, off, cap, rfl, hcap, hmax, ha, h10⟩ := h'.bools
 rw [marksL_length] at *
 unfold maxLen at hmax
 clear h h'
 go_enter Tryz.func95, Tryz.ntmps95
 go_wp2
 go_loop [1, 5] (fun kk i => ∃ j : Nat, j ≤ n ∧ i = .int .i64 j ∧ kk = .int .i64 (k + j)) (fun _ i => n - (intOf i).toNat)
 case atStart => exact ⟨0, Nat.zero_le _, rfl, by simp⟩
 case round =>
  obtain ⟨j, hj, rfl, rfl⟩ := hrel
  by_cases hlt : j < n
  ·have hal := ha (by omega)
   subst hal
   have d0 : w.cell? ⟨b, off + j, none⟩ = some (.bool (mrk (k + j))) := by rw [h10 j hlt, marksL_at k n j hlt]
   clear h10
   have hb0 : 0 ≤ k + (j : Int) := by omega
   have hb1 : k + (j : Int) ≤ 10000000000 := by omega
   by_cases hm : (k + (j : Int)) % 3 = 0
   ·have hm2 : mrk (k + (j : Int)) = true := by simp [mrk, hm]
    rw [hm2] at d0
    have hm3 : ((k + (j : Int)) % 3 == 0) = true := hm2
    go_wp2
    go_round
    case rel => exact ⟨j + 1, by omega, by go_num, by go_num⟩
    case measure => simp [intOf]; omega
   ·have hm2 : mrk (k + (j : Int)) = false := by simp [mrk, hm]
    rw [hm2] at d0
    have hm3 : ((k + (j : Int)) % 3 == 0) = false := hm2
    go_wp2
    go_round
    case rel => exact ⟨j + 1, by omega, by go_num, by go_num⟩
    case measure => simp [intOf]; omega
  ·have hjl : j = n := by omega
   subst hjl
   go_wp2
   go_ret
   exact ⟨rfl, rfl⟩
end
section
open Go.RowKit

def marksE (k : Int) (n : Nat) : EL := (List.range n).map fun (i : Nat) => (k + 6 * i, k + 6 * i + 1, k + 6 * i + 1 + 1, k + 6 * i + 1 + 1 + 1, k + 6 * i + 1 + 1 + 1 + 1, k + 6 * i + 1 + 1 + 1 + 1 + 1)
theorem marksE_length (k : Int) (n : Nat) : (marksE k n).length = n := by simp [marksE]
theorem marksE_succ (k : Int) (n : Nat) : marksE k (n + 1) = marksE k n ++ [(k + 6 * n, k + 6 * n + 1, k + 6 * n + 1 + 1, k + 6 * n + 1 + 1 + 1, k + 6 * n + 1 + 1 + 1 + 1, k + 6 * n + 1 + 1 + 1 + 1 + 1)] := by simp [marksE, List.range_succ]
theorem marksE_at (k : Int) (n i : Nat) (h : i < n) : eT (marksE k n) i = k + 6 * i ∧ eC (marksE k n) i = k + 6 * i + 1 ∧ eS (marksE k n) i = k + 6 * i + 1 + 1 ∧ eO (marksE k n) i = k + 6 * i + 1 + 1 + 1 ∧ eK (marksE k n) i = k + 6 * i + 1 + 1 + 1 + 1 ∧ eV (marksE k n) i = k + 6 * i + 1 + 1 + 1 + 1 + 1 := by
 simp [marksE, eT, eC, eS, eO, eK, eV, List.getD, h]
def midE (k : Int) (l : EL) (i : Nat) : EL := marksE k i ++ l.drop i
theorem midE_length (k : Int) (l : EL) (i : Nat) (h : i ≤ l.length) : (midE k l i).length = l.length := by simp [midE, marksE_length]; omega
theorem midE_zero (k : Int) (l : EL) : midE k l 0 = l := by simp [midE, marksE]
theorem midE_full (k : Int) (l : EL) : midE k l l.length = marksE k l.length := by simp [midE]
theorem midE_step (k : Int) (l : EL) (i : Nat) (h : i < l.length) : (midE k l i).set i (k + 6 * i, k + 6 * i + 1, k + 6 * i + 1 + 1, k + 6 * i + 1 + 1 + 1, k + 6 * i + 1 + 1 + 1 + 1, k + 6 * i + 1 + 1 + 1 + 1 + 1) = midE k l (i + 1) := by
 rw [midE, midE, marksE_succ, List.drop_eq_getElem_cons h, List.set_append_right _ _ (by rw [marksE_length]; omega), marksE_length, Nat.sub_self, List.set_cons_zero]
 simp

theorem owns_capE {w : World} {base e size n cap : Nat} {a : Option Addr} {xs : List Value} (h : w.ownsRow base e size (.slice a n cap) n xs) : cap ≤ maxLen := by
 obtain ⟨_, ⟨e, _⟩ | ⟨g, cap', cur, e, _, _, _, hc, _⟩⟩ := h
 ·simp at e; rw [e.2.2]; exact Nat.zero_le _
 ·simp at e; rw [e.2]; exact hc

theorem markEntryS_any (v : Value) (l : EL) (k : Int) (w : World) (h : w.ownsRow 0 119 6 v l.length (flatE l)) (hn : l.length ≤ 67108864) (hk0 : 0 ≤ k) (hk1 : k ≤ 671088640) :
  Calls Tryz.prog 45 #[v, .int .i64 k] w fun e w' => e = .returned (.int .i64 (k + 6 * l.length)) ∧ w'.ownsRow 0 119 6 v l.length (flatE (marksE k l.length)) ∧ Chg (fun g => v.ownBlock = some g) w w' := by
 obtain ⟨a, cap, hv⟩ := owns_val h
 have OW : Hid (w.ownsRow 0 119 6 v l.length (flatE l)) := h
 clear h
 rw [hv] at OW ⊢
 clear hv
 have hcap := owns_capE OW.out
 unfold maxLen at hcap
 go_enter Tryz.func45, Tryz.ntmps45
 go_wp2
 go_loopw [1, 5] (fun kk i wr => ∃ j : Nat, j ≤ l.length ∧ i = .int .i64 j ∧ kk = .int .i64 (k + 6 * j) ∧ wr.ownsRow 0 119 6 (.slice a l.length cap) l.length (flatE (midE k l j)) ∧ Chg (fun g => (Value.slice a l.length cap).ownBlock = some g) w wr)
  (fun _ i _ => l.length - (intOf i).toNat)
 case atStart => exact ⟨0, Nat.zero_le _, rfl, by simp, by rw [midE_zero]; exact OW.out, Chg.refl _ _⟩
 case round =>
  obtain ⟨j, hj, rfl, rfl, hown, hch⟩ := hrel
  by_cases hlt : j < l.length
  ·have hex : ∃ g, a = some ⟨g, 0, none⟩ := by
    obtain ⟨_, ⟨e, e2⟩ | ⟨g, cap', cur, e, _⟩⟩ := hown
    ·omega
    ·simp at e; exact ⟨g, e.1⟩
   obtain ⟨g, rfl⟩ := hex
   have hml : (midE k l j).length = l.length := midE_length k l j hj
   have hat := flatE_at (midE k l j) j (by omega)
   have e0 := (hown.cellAt (j * 6) (by omega)).trans hat.1
   have f0 := hown.frozenAt (j * 6)
   have e1 := (hown.cellAt (j * 6 + 1) (by omega)).trans hat.2.1
   have f1 := hown.frozenAt (j * 6 + 1)
   have e2 := (hown.cellAt (j * 6 + 2) (by omega)).trans hat.2.2.1
   have f2 := hown.frozenAt (j * 6 + 2)
   have e3 := (hown.cellAt (j * 6 + 3) (by omega)).trans hat.2.2.2.1
   have f3 := hown.frozenAt (j * 6 + 3)
   have e4 := (hown.cellAt (j * 6 + 4) (by omega)).trans hat.2.2.2.2.1
   have f4 := hown.frozenAt (j * 6 + 4)
   have e5 := (hown.cellAt (j * 6 + 5) (by omega)).trans hat.2.2.2.2.2
   have f5 := hown.frozenAt (j * 6 + 5)
   have st0 := (hown.stored (j * 6) (.int .i64 (k + 6 * j))).1
   have st1 := (st0.stored (j * 6 + 1) (.int .i64 (k + 6 * j + 1))).1
   have st2 := (st1.stored (j * 6 + 2) (.int .i64 (k + 6 * j + 1 + 1))).1
   have st3 := (st2.stored (j * 6 + 3) (.int .i64 (k + 6 * j + 1 + 1 + 1))).1
   have st4 := (st3.stored (j * 6 + 4) (.int .i64 (k + 6 * j + 1 + 1 + 1 + 1))).1
   have st5 := (st4.stored (j * 6 + 5) (.int .i64 (k + 6 * j + 1 + 1 + 1 + 1 + 1))).1
   rw [flatE_set _ _ _ _ _ _ _ j (by omega), midE_step k l j hlt] at st5
   have hch2 : Chg (fun g' => (Value.slice (some ⟨g, 0, none⟩) l.length cap).ownBlock = some g') w ((((((wr.setCell ⟨g, j * 6, none⟩ (.int .i64 (k + 6 * j))).setCell ⟨g, j * 6 + 1, none⟩ (.int .i64 (k + 6 * j + 1))).setCell ⟨g, j * 6 + 2, none⟩ (.int .i64 (k + 6 * j + 1 + 1))).setCell ⟨g, j * 6 + 3, none⟩ (.int .i64 (k + 6 * j + 1 + 1 + 1))).setCell ⟨g, j * 6 + 4, none⟩ (.int .i64 (k + 6 * j + 1 + 1 + 1 + 1))).setCell ⟨g, j * 6 + 5, none⟩ (.int .i64 (k + 6 * j + 1 + 1 + 1 + 1 + 1))) := ((((((hch.setAt g _ rfl _).setAt g _ rfl _).setAt g _ rfl _).setAt g _ rfl _).setAt g _ rfl _).setAt g _ rfl _)
   generalize eT (midE k l j) j = x0 at *
   generalize eC (midE k l j) j = x1 at *
   generalize eS (midE k l j) j = x2 at *
   generalize eO (midE k l j) j = x3 at *
   generalize eK (midE k l j) j = x4 at *
   generalize eV (midE k l j) j = x5 at *
   have ST : Hid _ := And.intro st5 hch2
   clear st0 st1 st2 st3 st4 st5 hch2 hown hch hml hat OW
   have hb0 : 0 ≤ k + 6 * (j : Int) := by omega
   have hb1 : k + 6 * (j : Int) ≤ 10000000000 := by omega
   go_wp2
   go_roundw
   case rel => exact ⟨j + 1, by omega, by go_num, by go_num, ST.out.1, ST.out.2⟩
   case measure => simp [intOf]; omega
  ·have hjl : j = l.length := by omega
   subst hjl
   go_wp2
   go_ret
   rw [midE_full] at hown
   exact ⟨rfl, hown, hch⟩

theorem heldEntryS_any (v : Value) (n : Nat) (k : Int) (w : World) (h : Row w v n (flatE (marksE k n))) (hn : n ≤ 67108864) (hk0 : 0 ≤ k) (hk1 : k ≤ 671088640) :
  Calls Tryz.prog 90 #[v, .int .i64 k] w fun e w' => e = .returned (.int .i64 (k + 6 * n)) ∧ w' = w := by
 have h' : Row w v (marksE k n).length (flatE (marksE k n)) := by rw [marksE_length]; exact h
 obtain ⟨a, b, off, cap, rfl, hcap, hmax, ha, h10, h11, h12, h13, h14, h15⟩ := h'.ents
 rw [marksE_length] at *
 unfold maxLen at hmax
 clear h h'
 go_enter Tryz.func90, Tryz.ntmps90
 go_wp2
 go_loop [1, 5] (fun kk i => ∃ j : Nat, j ≤ n ∧ i = .int .i64 j ∧ kk = .int .i64 (k + 6 * j)) (fun _ i => n - (intOf i).toNat)
 case atStart => exact ⟨0, Nat.zero_le _, rfl, by simp⟩
 case round =>
  obtain ⟨j, hj, rfl, rfl⟩ := hrel
  by_cases hlt : j < n
  ·have hal := ha (by omega)
   subst hal
   have d0 : w.cell? ⟨b, off + j * 6, none⟩ = some (.int .i64 (k + 6 * j)) := by rw [h10 j hlt, (marksE_at k n j hlt).1]
   have d1 : w.cell? ⟨b, off + j * 6 + 1, none⟩ = some (.int .i64 (k + 6 * j + 1)) := by rw [h11 j hlt, (marksE_at k n j hlt).2.1]
   have d2 : w.cell? ⟨b, off + j * 6 + 2, none⟩ = some (.int .i64 (k + 6 * j + 1 + 1)) := by rw [h12 j hlt, (marksE_at k n j hlt).2.2.1]
   have d3 : w.cell? ⟨b, off + j * 6 + 3, none⟩ = some (.int .i64 (k + 6 * j + 1 + 1 + 1)) := by rw [h13 j hlt, (marksE_at k n j hlt).2.2.2.1]
   have d4 : w.cell? ⟨b, off + j * 6 + 4, none⟩ = some (.int .i64 (k + 6 * j + 1 + 1 + 1 + 1)) := by rw [h14 j hlt, (marksE_at k n j hlt).2.2.2.2.1]
   have d5 : w.cell? ⟨b, off + j * 6 + 5, none⟩ = some (.int .i64 (k + 6 * j + 1 + 1 + 1 + 1 + 1)) := by rw [h15 j hlt, (marksE_at k n j hlt).2.2.2.2.2]
   clear h10 h11 h12 h13 h14 h15
   have hb0 : 0 ≤ k + 6 * (j : Int) := by omega
   have hb1 : k + 6 * (j : Int) ≤ 10000000000 := by omega
   go_wp2
   go_round
   case rel => exact ⟨j + 1, by omega, by go_num, by go_num⟩
   case measure => simp [intOf]; omega
  ·have hjl : j = n := by omega
   subst hjl
   go_wp2
   go_ret
   exact ⟨rfl, rfl⟩
end
end Go.Proofs.YtkcaelfkcepdkaaGreat
