/-
  The sorted map's drop, by a contract.
  The model's way of putting into a map, pair by pair, comes to the plain function.
  Contracts of the model's small functions on maps: clamp, without, put.
  Contracts of MapGet, the model's and the program's.
  Contracts of the model's MapDo and MapAll.
  Contracts of the program's sorted map as a map of pairs: put, drop, get, turned by a message, made of a list.
  The program's sorted map made of a list of pairs, and told as one.
  The contracts of the program's MapAll and MapDo.
  The contract of the model's MapAll.
-/
import Derived.Test.YtmpiijphpnjlnaaGreatPart1
import Derived.Test.YtmpiijphpnjlnaaGreatPart4
import Derived.Test.YtmpiijphpnjlnaaGreatPart2
namespace Go.Proofs.YtmpiijphpnjlnaaGreat
open Go.RowKit

set_option maxHeartbeats 1000000 in
theorem drop_none (B : Nat) (F : Nat → Prop) (ks vs : List Int) (k : Int) (w : World) (h : Srt w B F ks vs) (hs : ks.Pairwise (· ≤ ·)) (hbig : ks.length ≤ 1048576) (hf : ks.contains k = false) :
    Calls Tryz.prog 65 #[.pointer (some ⟨B, 0, none⟩), .int .i64 k] w fun e w' =>
      e = .returned (.tuple #[]) ∧ ∃ q, w' = w.drewN q := by
  obtain ⟨kv, vv, h1, h2, h3, h4, h5, h6, h7⟩ := h
  obtain ⟨ka, kc, hkv⟩ := owns_val h2
  have c0 : w.cell? ⟨B, 0, none⟩ = some (.slice ka ks.length kc) := by rw [cell_of_cells h1, ← hkv]; rfl
  have SO := search_own kv ks k w h2 hs (by omega)
  rw [hf, hkv] at SO
  have S2 : Hid _ := (fun (_ : Nat) => SO)
  clear SO h1 h2 h3 h4 h5 h6 h7 hkv hs hf
  generalize ks.countP (fun x => decide (x < k)) = p at *
  go_enter Tryz.func65, Tryz.ntmps65
  go_wp2_with fail
  refine (S2.out 0).mono ?_
  rintro e w1 ⟨rfl, q, rfl⟩
  go_wp2
  exact bodyPost_ret (v := .tuple #[]) (by simp [results, Tryz.results65, go_sem]) rfl ⟨rfl, q, rfl⟩

set_option maxHeartbeats 1000000 in
theorem drop_found (B : Nat) (F : Nat → Prop) (ks vs : List Int) (k : Int) (w : World) (h : Srt w B F ks vs) (hs : ks.Pairwise (· ≤ ·)) (hl : vs.length = ks.length) (hbig : ks.length ≤ 1048576) (hf : ks.contains k = true) :
    Calls Tryz.prog 65 #[.pointer (some ⟨B, 0, none⟩), .int .i64 k] w fun e w' =>
      e = .returned (.tuple #[]) ∧ ∃ F', Srt w' B F' (ks.take (ks.countP (· < k)) ++ ks.drop (ks.countP (· < k) + 1)) (vs.take (ks.countP (· < k)) ++ vs.drop (ks.countP (· < k) + 1)) ∧ Chg F w w' ∧ (∀ g, F' g → F g ∨ w.heap.size ≤ g) := by
  obtain ⟨kv, vv, h1, h2, h3, h4, h5, h6, h7⟩ := h
  have HL : Hid (vs.length = ks.length) := hl
  clear hl
  have hp : ks.countP (fun x => decide (x < k)) < ks.length := found_lt hf
  obtain ⟨ka, kc, hkv⟩ := owns_val h2
  obtain ⟨va, vc, hvv⟩ := owns_val h3
  have SO := search_own kv ks k w h2 hs (by omega)
  rw [hf] at SO
  generalize ks.countP (fun x => decide (x < k)) = p at *
  have c0 : w.cell? ⟨B, 0, none⟩ = some (.slice ka ks.length kc) := by rw [cell_of_cells h1, ← hkv]; rfl
  have S2 : Hid _ := (fun (_ : Nat) => SO)
  clear SO
  have INFO : Hid _ := And.intro h1 (And.intro h2 (And.intro h3 (And.intro h4 (And.intro h6 (And.intro h7 (And.intro hkv hvv))))))
  rw [hkv] at S2
  clear h1 h2 h3 h4 h6 h7 hkv hvv hs hf
  go_enter Tryz.func65, Tryz.ntmps65
  go_wp2_with fail
  refine (S2.out 0).mono ?_
  rintro e w1 ⟨rfl, q, rfl⟩
  go_wp2_with fail
  obtain ⟨h1, h2, h3, h4, h6, h7, hkv, hvv⟩ := INFO.out
  have b1 : Below w.heap.size w (w.drewN q) := below_drewN (Below.refl _ _) q
  have INS := delete_own kv ks p (w.drewN q) (owns_below h2 b1) hp
  rw [hkv, show ((p + 1 : Nat) : Int) = (p : Int) + 1 from by omega] at INS
  refine INS.mono ?_
  rintro e w2 ⟨kv', rfl, o2, c2, b2⟩
  rw [← hkv] at c2 b2
  have C2 : Chg (fun g => kv.ownBlock = some g) w w2 := (Chg.of_below b1).trans c2 (fun _ _ e => e)
  have hkB : ¬ kv.ownBlock = some B := fun e => by
    obtain ⟨_, cur, hc⟩ := owns_lt h2 e
    rw [h1] at hc; simp at hc
  have hB2 := row_chg h1 C2 hkB
  obtain ⟨a2, q2, hv2⟩ := owns_val o2
  have d0 : w2.cell? ⟨B, 0, none⟩ = some (.slice ka ks.length kc) := by rw [cell_of_cells hB2, ← hkv]; rfl
  have d1 : w2.cell? ⟨B, 1, none⟩ = some (.slice va vs.length vc) := by rw [cell_of_cells hB2, ← hvv]; rfl
  have f0 : w2.frozen? ⟨B, 0, none⟩ = false := frozen_of_cells hB2
  have f1 : w2.frozen? ⟨B, 1, none⟩ = false := frozen_of_cells hB2
  have hvk : ∀ g, vv.ownBlock = some g → ¬ kv.ownBlock = some g := fun g hg hk => h4 g hk hg
  have O3 : w2.ownsRow 0 3 1 vv vs.length (vs.map (Value.int .i64)) := owns_chg h3 C2 hvk
  have hvB : vv.ownBlock ≠ some B := fun e => by
    obtain ⟨_, cur, hc⟩ := owns_lt h3 e
    rw [h1] at hc; simp at hc
  have I2 : Hid _ := And.intro hv2 (And.intro o2 (And.intro C2 (And.intro b2 (And.intro hB2 (And.intro O3 hvB)))))
  rw [hv2]
  clear hv2 o2 C2 b2 hB2 O3 hvB c2 INS b1 hkB hvk c0 h1 h2 h3 h4 h6 h7 hkv hvv
  generalize ks.length - 1 = m at *
  go_wp2_with fail
  obtain ⟨hv2, o2, C2, b2, hB2, O3, hvB⟩ := I2.out
  obtain ⟨h1, h2, h3, h4, h6, h7, hkv, hvv⟩ := INFO.out
  have cB : Chg (fun g => g = B) w2 (w2.setCell ⟨B, 0, none⟩ (.slice a2 m q2)) := Chg.setCell (F := fun g => g = B) (Chg.refl _ _) (fun _ => rfl) _
  have O4 : (w2.setCell ⟨B, 0, none⟩ (.slice a2 m q2)).ownsRow 0 3 1 vv vs.length (vs.map (Value.int .i64)) := owns_chg O3 cB (fun g hg e => hvB (e ▸ hg))
  have INS := delete_own vv vs p _ O4 (by rw [HL.out]; exact hp)
  rw [hvv, show ((p + 1 : Nat) : Int) = (p : Int) + 1 from by omega] at INS
  refine INS.mono ?_
  rintro e w4 ⟨vv', rfl, o4, c4, b4⟩
  rw [← hvv] at c4 b4
  have C4 : Chg (fun g => vv.ownBlock = some g) (w2.setCell ⟨B, 0, none⟩ kv') w4 := by rw [hv2]; exact c4
  have hB3 : (w2.setCell ⟨B, 0, none⟩ kv').heap[B]? = some (.cells #[kv', vv] 66 (0, 0)) := by
    rw [heap_setCell_same w2 B 0 _ 66 kv' hB2]; rfl
  have hB4 := row_chg hB3 C4 hvB
  obtain ⟨a4, q4, hv4⟩ := owns_val o4
  have e1 : w4.cell? ⟨B, 1, none⟩ = some (.slice va vs.length vc) := by rw [cell_of_cells hB4, ← hvv]; rfl
  have g1 : w4.frozen? ⟨B, 1, none⟩ = false := frozen_of_cells hB4
  have hlenk : (ks.take p ++ ks.drop (p + 1)).length = m := by have := o2.1; simp at this ⊢; omega
  have hlenv : (vs.take p ++ vs.drop (p + 1)).length = vs.length - 1 := by have := HL.out; simp; omega
  rw [← hlenk] at o2
  rw [← hlenv] at o4
  have FIN : Hid _ := And.intro hv4 (Srt.ins (F := F) h1 h3 h4 h5 h6 h7 o2 C2 (Or.inl b2) (Nat.le_refl _) hB2 o4 C4 (Or.inl b4) (Nat.le_refl _))
  rw [hv4]
  clear hv4 o4 C4 b4 hB4 hB3 c4 INS O4 cB h1 h2 h3 h4 h6 h7 hkv hvv hv2 o2 C2 b2 hB2 O3 hvB hlenk hlenv
  generalize vs.length - 1 = m' at *
  go_wp2
  obtain ⟨hv4, F', r1, r2, r3⟩ := FIN.out
  rw [hv4] at r1 r2
  go_end0
  exact ⟨rfl, F', r1, r2, r3⟩

end Go.Proofs.YtmpiijphpnjlnaaGreat

namespace Go.Proofs.YtmpiijphpnjlnaaGreat

def stp (k v : Int) (s : PL × Bool) (p : Int × Int) : PL × Bool :=
  if s.2 = false ∧ k ≤ p.1 then (if p.1 = k then (s.1 ++ [(k, v)], true) else (s.1 ++ [(k, v)] ++ [p], true))
  else (if p.1 = k then s else (s.1 ++ [p], s.2))
def stpTo (k v : Int) (l : PL) (i : Nat) : PL × Bool := (l.take i).foldl (stp k v) ([], false)
def stpEnd (k v : Int) (s : PL × Bool) : PL := if s.2 = true then s.1 else s.1 ++ [(k, v)]

theorem stpTo_succ (k v : Int) (l : PL) (i : Nat) (h : i < l.length) : stpTo k v l (i + 1) = stp k v (stpTo k v l i) (kOf l i, vOf l i) := by
  have e : (kOf l i, vOf l i) = l[i] := by simp [kOf, vOf, List.getD, h]
  rw [stpTo, List.take_succ_eq_append_getElem h, List.foldl_append, e]; rfl
theorem stp_length (k v : Int) (s : PL × Bool) (p : Int × Int) : (stp k v s p).1.length ≤ s.1.length + 2 := by
  unfold stp
  split <;> split <;> simp
theorem stpTo_length (k v : Int) (l : PL) (i : Nat) : (stpTo k v l i).1.length ≤ 2 * i := by
  have h : ∀ (l : PL) (s : PL × Bool), (l.foldl (stp k v) s).1.length ≤ s.1.length + 2 * l.length := by
    intro l
    induction l with
    | nil => intro s; simp
    | cons p l ih =>
      intro s
      have h1 := ih (stp k v s p)
      have h2 := stp_length k v s p
      rw [List.foldl_cons]
      simp only [List.length_cons]
      omega
  have := h (l.take i) ([], false)
  have hl : (l.take i).length ≤ i := List.length_take_le _ _
  unfold stpTo
  simp only [List.length_nil] at this
  omega

theorem stp_true (k v : Int) (l : PL) (acc : PL) : l.foldl (stp k v) (acc, true) = (acc ++ delF l k, true) := by
  induction l generalizing acc with
  | nil => simp [delF]
  | cons p l ih =>
    rw [List.foldl_cons]
    by_cases h : p.1 = k
    · rw [show stp k v (acc, true) p = (acc, true) by simp [stp, h], ih, delF, delF, List.filter_cons_of_neg (by simp [h])]
    · rw [show stp k v (acc, true) p = (acc ++ [p], true) by simp [stp, h], ih, delF, delF, List.filter_cons_of_pos (by simp [h])]
      simp
theorem stp_put {l : PL} (h : Asc l) (k v : Int) (acc : PL) : stpEnd k v (l.foldl (stp k v) (acc, false)) = acc ++ putF l k v := by
  induction l generalizing acc with
  | nil => simp [stpEnd, putF]
  | cons p l ih =>
    obtain ⟨h1, h2⟩ := h.cons
    rw [List.foldl_cons]
    by_cases hlt : p.1 < k
    · rw [show stp k v (acc, false) p = (acc ++ [p], false) by simp [stp, show ¬ k ≤ p.1 by omega, show ¬ p.1 = k by omega], ih h2]
      have e : putF (p :: l) k v = p :: putF l k v := by simp [putF, hlt, show ¬ k < p.1 by omega]
      rw [e]; simp
    · by_cases he : p.1 = k
      · have hg : ∀ q ∈ l, k < q.1 := fun q hq => by have := h1 q hq; omega
        obtain ⟨f1, f2, f3⟩ := filter_gt hg
        rw [show stp k v (acc, false) p = (acc ++ [(k, v)], true) by simp [stp, he], stp_true, delF, f3]
        have e : putF (p :: l) k v = (k, v) :: l := by simp [putF, hlt, show ¬ k < p.1 by omega, f1, f2]
        rw [e]; simp [stpEnd]
      · have hg : ∀ q ∈ l, k < q.1 := fun q hq => by have := h1 q hq; omega
        obtain ⟨f1, f2, f3⟩ := filter_gt hg
        rw [show stp k v (acc, false) p = (acc ++ [(k, v)] ++ [p], true) by simp [stp, show k ≤ p.1 by omega, he], stp_true, delF, f3]
        have e : putF (p :: l) k v = (k, v) :: p :: l := by simp [putF, hlt, show k < p.1 by omega, f1, f2]
        rw [e]; simp [stpEnd]
theorem stpTo_full {l : PL} (h : Asc l) (k v : Int) : stpEnd k v (stpTo k v l l.length) = putF l k v := by
  have := stp_put h k v []
  simpa [stpTo] using this

theorem delF_succ (l : PL) (k : Int) (i : Nat) (h : i < l.length) : delF (l.take (i + 1)) k = if kOf l i = k then delF (l.take i) k else delF (l.take i) k ++ [(kOf l i, vOf l i)] := by
  have e : (kOf l i, vOf l i) = l[i] := by simp [kOf, vOf, List.getD, h]
  rw [List.take_succ_eq_append_getElem h, delF, List.filter_append, ← e]
  by_cases hk : kOf l i = k
  · simp [hk, delF]
  · simp [hk, delF]

end Go.Proofs.YtmpiijphpnjlnaaGreat

namespace Go.Proofs.YtmpiijphpnjlnaaGreat
open Go.RowKit

set_option maxHeartbeats 400000 in
theorem l1Min_any (a b : Int) (w : World) : Calls Tryz.prog 92 #[.int .i64 a, .int .i64 b] w fun e w' => e = .returned (.int .i64 (min a b)) ∧ w' = w := by
  by_cases h : a < b
  · have E : Hid (min a b = a) := Int.min_eq_left (by omega)
    go_enter Tryz.func92, Tryz.ntmps92
    go_wp2
    go_ret
    exact ⟨ret_int E.out.symm, rfl⟩
  · have E : Hid (min a b = b) := Int.min_eq_right (by omega)
    go_enter Tryz.func92, Tryz.ntmps92
    go_wp2
    go_ret
    exact ⟨ret_int E.out.symm, rfl⟩
set_option maxHeartbeats 400000 in
theorem l1Max_any (a b : Int) (w : World) : Calls Tryz.prog 91 #[.int .i64 a, .int .i64 b] w fun e w' => e = .returned (.int .i64 (max a b)) ∧ w' = w := by
  by_cases h : b < a
  · have E : Hid (max a b = a) := Int.max_eq_left (by omega)
    go_enter Tryz.func91, Tryz.ntmps91
    go_wp2
    go_ret
    exact ⟨ret_int E.out.symm, rfl⟩
  · have E : Hid (max a b = b) := Int.max_eq_right (by omega)
    go_enter Tryz.func91, Tryz.ntmps91
    go_wp2
    go_ret
    exact ⟨ret_int E.out.symm, rfl⟩
theorem clamp_eq (x : Int) : max (min x 1000000000) (-1000000000) = clampI x := by
  unfold clampI; split <;> (try split) <;> omega
set_option maxHeartbeats 400000 in
theorem l1Clamp_any (x : Int) (w : World) : Calls Tryz.prog 72 #[.int .i64 x] w fun e w' => e = .returned (.int .i64 (clampI x)) ∧ w' = w := by
  have E : Hid (max (min x 1000000000) (-1000000000) = clampI x) := clamp_eq x
  go_enter Tryz.func72, Tryz.ntmps72
  go_wp2_with fail
  refine (l1Min_any _ _ _).mono ?_
  rintro e w' ⟨rfl, rfl⟩
  generalize hm : min x 1000000000 = m at *
  clear hm
  go_wp2_with fail
  refine (l1Max_any _ _ _).mono ?_
  rintro e w' ⟨rfl, rfl⟩
  rw [E.out]
  go_wp2
  go_ret
  exact ⟨rfl, rfl⟩

set_option maxHeartbeats 1000000 in
theorem l1Without_any (v : Value) (l : PL) (x : Int) (w : World) (h : Row w v l.length (flatP l)) (hn : l.length ≤ 4194304) :
    Calls Tryz.prog 71 #[v, .int .i64 x] w fun e w' => ∃ v', e = .returned v' ∧ w'.ownsRow w.heap.size 52 2 v' (delF l x).length (flatP (delF l x)) ∧ Below w.heap.size w w' := by
  obtain ⟨a, b, off, cap, rfl, hcap, hmax, ha, hk, hv⟩ := h.pairs
  obtain ⟨i0, hi, hz0, hz1, hz2⟩ := info_parts Tryz.info52
  unfold maxLen at hmax
  go_enter Tryz.func71, Tryz.ntmps71
  go_wp2
  go_loopw [5, 6] (fun out i wr => ∃ k : Nat, k ≤ l.length ∧ i = .int .i64 k ∧ wr.ownsRow w.heap.size 52 2 out (delF (l.take k) x).length (flatP (delF (l.take k) x)) ∧ Below w.heap.size w wr)
    (fun _ i _ => l.length - (intOf i).toNat)
  case atStart => exact ⟨0, Nat.zero_le _, rfl, empty_own w _ 52 2 (Nat.le_refl _), (Below.refl _ _).alloc (Nat.le_refl _) _⟩
  case round =>
    obtain ⟨k, hkl, rfl, hown, hb⟩ := hrel
    by_cases hlt : k < l.length
    · have hal := ha (by omega)
      subst hal
      have d0 := (hb.cell (by exact cell_lt (hk k hlt))).trans (hk k hlt)
      have d1 := (hb.cell (by exact cell_lt (hv k hlt))).trans (hv k hlt)
      have hds := delF_succ l x k hlt
      have hdl : (delF (l.take k) x).length ≤ k := Nat.le_trans (delF_length _ _) (List.length_take_le _ _)
      by_cases hx : kOf l k = x
      · have hq : (kOf l k != x) = false := by simpa using hx
        rw [if_pos hx] at hds
        have DS : Hid _ := hds
        have OW : Hid _ := hown
        clear hk hv hx hds hown h
        go_wp2
        go_roundw
        case rel => exact ⟨k + 1, by omega, by go_num, by rw [DS.out]; exact OW.out, hb⟩
        case measure => simp [intOf]; omega
      · have hq : (kOf l k != x) = true := by simpa using hx
        rw [if_neg hx] at hds
        have DS : Hid _ := hds
        generalize delF (l.take k) x = D at *
        have hbs := hb.size
        clear hk hv hx hds h
        have hrm := room_of (n := D.length) (bytes := 16) (by omega) (by decide)
        have HR : Hid _ := hrm
        clear hrm
        go_wp2_with (at_builtin; refine app_one wr rfl _ _ 24 rfl w.heap.size 52 i0 _ 2 16 Tryz.underlying24 hi hz0 hz1 hz2 rfl (by decide) u5 _ _ rfl hown [.int .i64 (kOf l k), .int .i64 (vOf l k)] rfl rfl (two_one _ _) HR.out.1 HR.out.2 hbs ?_)
        intro v' w1 ho1 _ hb1
        rw [flatP_snoc] at ho1
        have hb2 := hb.trans hb1
        clear hown hb hb1
        go_wp2
        go_roundw
        case rel => exact ⟨k + 1, by omega, by go_num, by rw [DS.out, List.length_append]; exact ho1, hb2⟩
        case measure => simp [intOf]; omega
    · go_wp2
      go_ret
      have hkk : k = l.length := by omega
      subst hkk
      rw [List.take_of_length_le (Nat.le_refl _)] at hown
      exact ⟨_, rfl, hown, hb⟩

theorem stp_cases {k v : Int} {s : PL × Bool} {p : Int × Int} : 
    (s.2 = false → k < p.1 → stp k v s p = (s.1 ++ [(k, v)] ++ [p], true)) ∧ (s.2 = false → p.1 = k → stp k v s p = (s.1 ++ [(k, v)], true)) ∧ (s.2 = false → p.1 < k → stp k v s p = (s.1 ++ [p], false)) ∧
    (s.2 = true → p.1 ≠ k → stp k v s p = (s.1 ++ [p], true)) ∧ (s.2 = true → p.1 = k → stp k v s p = (s.1, true)) := by
  obtain ⟨a, b⟩ := s
  refine ⟨fun h1 h2 => ?_, fun h1 h2 => ?_, fun h1 h2 => ?_, fun h1 h2 => ?_, fun h1 h2 => ?_⟩ <;> simp only at h1 <;> subst h1
  · simp [stp, show k ≤ p.1 by omega, show ¬ p.1 = k by omega]
  · simp [stp, h2]
  · simp [stp, show ¬ k ≤ p.1 by omega, show ¬ p.1 = k by omega]
  · simp [stp, h2]
  · simp [stp, h2]

set_option maxRecDepth 100000 in
set_option maxHeartbeats 2000000 in
theorem l1Put_any (v : Value) (l : PL) (x y : Int) (w : World) (h : Row w v l.length (flatP l)) (hn : l.length ≤ 2097152) (hasc : Asc l) :
    Calls Tryz.prog 70 #[v, .int .i64 x, .int .i64 y] w fun e w' => ∃ v', e = .returned v' ∧ w'.ownsRow w.heap.size 52 2 v' (putF l x y).length (flatP (putF l x y)) ∧ Below w.heap.size w w' := by
  obtain ⟨a, b, off, cap, rfl, hcap, hmax, ha, hk, hv⟩ := h.pairs
  obtain ⟨i0, hi, hz0, hz1, hz2⟩ := info_parts Tryz.info52
  unfold maxLen at hmax
  have FULL : Hid _ := stpTo_full hasc x y
  clear hasc h
  go_enter Tryz.func70, Tryz.ntmps70
  go_wp2
  go_loopw [7, 8, 9] (fun out put i wr => ∃ k : Nat, k ≤ l.length ∧ i = .int .i64 k ∧ put = .bool (stpTo x y l k).2 ∧ wr.ownsRow w.heap.size 52 2 out (stpTo x y l k).1.length (flatP (stpTo x y l k).1) ∧ Below w.heap.size w wr)
    (fun _ _ i _ => l.length - (intOf i).toNat)
  case atStart => exact ⟨0, Nat.zero_le _, rfl, rfl, empty_own w _ 52 2 (Nat.le_refl _), (Below.refl _ _).alloc (Nat.le_refl _) _⟩
  case round =>
    obtain ⟨k, hkl, rfl, rfl, hown, hb⟩ := hrel
    have hbs := hb.size
    by_cases hlt : k < l.length
    · have hal := ha (by omega)
      subst hal
      have d0 := (hb.cell (by exact cell_lt (hk k hlt))).trans (hk k hlt)
      have d1 := (hb.cell (by exact cell_lt (hv k hlt))).trans (hv k hlt)
      have hds := stpTo_succ x y l k hlt
      have hdl := stpTo_length x y l k
      obtain ⟨cc1, cc2, cc3, cc4, cc5⟩ := @stp_cases x y (stpTo x y l k) (kOf l k, vOf l k)
      have hbw : b < w.heap.size := cell_lt (hk k hlt)
      clear hk hv
      generalize hS : stpTo x y l k = S at *
      clear hS
      have HR : Hid _ := room_of (n := S.1.length) (bytes := 16) (by omega) (by decide)
      have HR2 : Hid _ := room_of (n := S.1.length + 1) (bytes := 16) (by omega) (by decide)
      obtain ⟨D, fl⟩ := S
      simp only at hown cc1 cc2 cc3 cc4 cc5 HR HR2
      cases fl
      · rcases (show x < kOf l k ∨ kOf l k = x ∨ kOf l k < x from by omega) with hc | hc | hc
        · have DS : Hid _ := hds.trans (cc1 rfl hc)
          have hq : (kOf l k != x) = true := by rw [bne_iff_ne]; omega
          clear hds cc1 cc2 cc3 cc4 cc5
          go_wp2_with (at_builtin; refine app_one wr rfl _ _ 24 rfl w.heap.size 52 i0 _ 2 16 Tryz.underlying24 hi hz0 hz1 hz2 rfl (by decide) u7 _ _ rfl hown [.int .i64 x, .int .i64 y] rfl rfl (two_one _ _) HR.out.1 HR.out.2 hbs ?_)
          intro v1 w1 ho1 _ hb1
          rw [flatP_snoc] at ho1
          have hb2 := hb.trans hb1
          have hbs1 := hb2.size
          have e0 := (hb1.cell (p := ⟨b, off + k * 2, none⟩) hbw).trans d0
          have e1 := (hb1.cell (p := ⟨b, off + k * 2 + 1, none⟩) hbw).trans d1
          clear d0 d1 hown hb hb1 hbs
          go_wp2_with (at_builtin; refine app_one w1 rfl _ _ 24 rfl w.heap.size 52 i0 _ 2 16 Tryz.underlying24 hi hz0 hz1 hz2 rfl (by decide) v1 _ _ rfl ho1 [.int .i64 (kOf l k), .int .i64 (vOf l k)] rfl rfl (two_one _ _) HR2.out.1 HR2.out.2 hbs1 ?_)
          intro v2 w2 ho2 _ hb3
          rw [flatP_snoc] at ho2
          have hb4 := hb2.trans hb3
          clear ho1 hb2 hb3 e0 e1
          go_wp2
          go_roundw
          case rel => exact ⟨k + 1, by omega, by go_num, by rw [DS.out], by rw [DS.out, List.length_append, List.length_append]; exact ho2, hb4⟩
          case measure => simp [intOf]; omega
        · have DS : Hid _ := hds.trans (cc2 rfl hc)
          have hq : (kOf l k != x) = false := by rw [bne_eq_false_iff_eq]; exact hc
          have hge : x ≤ kOf l k := by omega
          clear hds cc1 cc2 cc3 cc4 cc5 hc
          go_wp2_with (at_builtin; refine app_one wr rfl _ _ 24 rfl w.heap.size 52 i0 _ 2 16 Tryz.underlying24 hi hz0 hz1 hz2 rfl (by decide) u7 _ _ rfl hown [.int .i64 x, .int .i64 y] rfl rfl (two_one _ _) HR.out.1 HR.out.2 hbs ?_)
          intro v1 w1 ho1 _ hb1
          rw [flatP_snoc] at ho1
          have hb2 := hb.trans hb1
          have e0 := (hb1.cell (p := ⟨b, off + k * 2, none⟩) hbw).trans d0
          clear d0 d1 hown hb hb1 hbs
          go_wp2
          go_roundw
          case rel => exact ⟨k + 1, by omega, by go_num, by rw [DS.out], by rw [DS.out, List.length_append]; exact ho1, hb2⟩
          case measure => simp [intOf]; omega
        · have DS : Hid _ := hds.trans (cc3 rfl hc)
          have hq : (kOf l k != x) = true := by rw [bne_iff_ne]; omega
          clear hds cc1 cc2 cc3 cc4 cc5
          go_wp2_with (at_builtin; refine app_one wr rfl _ _ 24 rfl w.heap.size 52 i0 _ 2 16 Tryz.underlying24 hi hz0 hz1 hz2 rfl (by decide) u7 _ _ rfl hown [.int .i64 (kOf l k), .int .i64 (vOf l k)] rfl rfl (two_one _ _) HR.out.1 HR.out.2 hbs ?_)
          intro v1 w1 ho1 _ hb1
          rw [flatP_snoc] at ho1
          have hb2 := hb.trans hb1
          clear d0 d1 hown hb hb1 hbs
          go_wp2
          go_roundw
          case rel => exact ⟨k + 1, by omega, by go_num, by rw [DS.out], by rw [DS.out, List.length_append]; exact ho1, hb2⟩
          case measure => simp [intOf]; omega
      · by_cases hc : kOf l k = x
        · have DS : Hid _ := hds.trans (cc5 rfl hc)
          have hq : (kOf l k != x) = false := by rw [bne_eq_false_iff_eq]; exact hc
          clear hds cc1 cc2 cc3 cc4 cc5 hc
          have OW : Hid _ := hown
          clear hown
          go_wp2
          go_roundw
          case rel => exact ⟨k + 1, by omega, by go_num, by rw [DS.out], by rw [DS.out]; exact OW.out, hb⟩
          case measure => simp [intOf]; omega
        · have DS : Hid _ := hds.trans (cc4 rfl hc)
          have hq : (kOf l k != x) = true := by rw [bne_iff_ne]; exact hc
          clear hds cc1 cc2 cc3 cc4 cc5
          go_wp2_with (at_builtin; refine app_one wr rfl _ _ 24 rfl w.heap.size 52 i0 _ 2 16 Tryz.underlying24 hi hz0 hz1 hz2 rfl (by decide) u7 _ _ rfl hown [.int .i64 (kOf l k), .int .i64 (vOf l k)] rfl rfl (two_one _ _) HR.out.1 HR.out.2 hbs ?_)
          intro v1 w1 ho1 _ hb1
          rw [flatP_snoc] at ho1
          have hb2 := hb.trans hb1
          clear d0 d1 hown hb hb1 hbs
          go_wp2
          go_roundw
          case rel => exact ⟨k + 1, by omega, by go_num, by rw [DS.out], by rw [DS.out, List.length_append]; exact ho1, hb2⟩
          case measure => simp [intOf]; omega
    · have hkk : k = l.length := by omega
      subst hkk
      have hdl := stpTo_length x y l l.length
      generalize hS : stpTo x y l l.length = S at *
      clear hS
      have HR : Hid _ := room_of (n := S.1.length) (bytes := 16) (by omega) (by decide)
      obtain ⟨D, fl⟩ := S
      simp only at hown HR
      cases fl
      · go_wp2_with (at_builtin; refine app_one wr rfl _ _ 24 rfl w.heap.size 52 i0 _ 2 16 Tryz.underlying24 hi hz0 hz1 hz2 rfl (by decide) u7 _ _ rfl hown [.int .i64 x, .int .i64 y] rfl rfl (two_one _ _) HR.out.1 HR.out.2 hbs ?_)
        intro v1 w1 ho1 _ hb1
        rw [flatP_snoc] at ho1
        have hb2 := hb.trans hb1
        clear hown hb hb1 hbs
        go_wp2
        go_ret
        have e : putF l x y = D ++ [(x, y)] := by rw [← FULL.out]; rfl
        exact ⟨_, rfl, by rw [e, List.length_append]; exact ho1, hb2⟩
      · have OW : Hid _ := hown
        clear hown
        go_wp2
        go_ret
        have e : putF l x y = D := by rw [← FULL.out]; rfl
        exact ⟨_, rfl, by rw [e]; exact OW.out, hb⟩

end Go.Proofs.YtmpiijphpnjlnaaGreat

namespace Go.Proofs.YtmpiijphpnjlnaaGreat
open Go.RowKit

theorem ret_two {a b : Int} {c d : Bool} {q : Int × Bool} (h : q = (a, c)) (h2 : b = a) (h3 : d = c) : Ending.returned (.tuple #[.int .i64 b, .bool d]) = .returned (.tuple #[.int .i64 q.1, .bool q.2]) := by rw [h, h2, h3]

set_option maxHeartbeats 1000000 in
theorem specMapGet_any (v : Value) (l : List (Int × Int)) (x : Int) (w : World) (h : Row w v l.length (flatP l)) :
    Calls Tryz.prog 27 #[v, .int .i64 x] w fun e w' => e = .returned (.tuple #[.int .i64 (getP l x).1, .bool (getP l x).2]) ∧ w' = w := by
  obtain ⟨a, b, off, cap, rfl, hcap, hmax, ha, hk, hv⟩ := h.pairs
  unfold maxLen at hmax
  go_enter Tryz.func27, Tryz.ntmps27
  go_wp2
  go_loop [6] (fun i => ∃ k : Nat, k ≤ l.length ∧ i = .int .i64 k ∧ (∀ j, j < k → kOf l j ≠ x))
    (fun i => l.length - (intOf i).toNat)
  case atStart => exact ⟨0, Nat.zero_le _, rfl, fun i hi => absurd hi (Nat.not_lt_zero _)⟩
  case round =>
    obtain ⟨k, hkl, rfl, hall⟩ := hrel
    have ALL : Hid (∀ j, j < k → kOf l j ≠ x) := hall
    clear hall
    by_cases hlt : k < l.length
    · have hal := ha (by omega)
      subst hal
      have d0 := hk k hlt
      have d1 := hv k hlt
      by_cases hx : kOf l k = x
      · have G : Hid (getP l x = (vOf l k, true)) := getP_hit hlt ALL.out hx
        have hq : (kOf l k == x) = true := by simpa using hx
        clear hk hv hx
        go_wp2
        go_ret2
        exact ⟨ret_two G.out rfl rfl, rfl⟩
      · have hq : (kOf l k == x) = false := by simpa using hx
        have HX : Hid (kOf l k ≠ x) := hx
        clear hk hv hx
        go_wp2
        go_round
        case rel => exact ⟨k + 1, by omega, by go_num, fun i hi => if h : i < k then ALL.out i h else by rw [show i = k by omega]; exact HX.out⟩
        case measure => simp [intOf]; omega
    · have G : Hid (getP l x = (0, false)) := getP_none (fun j hj => ALL.out j (by omega))
      go_wp2
      go_ret2
      exact ⟨ret_two G.out rfl rfl, rfl⟩

set_option maxHeartbeats 1000000 in
theorem implMapGet_any (v : Value) (l : List (Int × Int)) (x : Int) (w : World) (h : Row w v l.length (flatP l)) :
    Calls Tryz.prog 12 #[v, .int .i64 x] w fun e w' => e = .returned (.tuple #[.int .i64 (getP l x).1, .bool (getP l x).2]) ∧ Below w.heap.size w w' := by
  obtain ⟨a, b, off, cap, rfl, hcap, hmax, ha, hk, hv⟩ := h.pairs
  unfold maxLen at hmax
  go_enter Tryz.func12, Tryz.ntmps12
  go_wp2
  go_loopw [10] (fun i wr => ∃ k : Nat, k ≤ l.length ∧ i = .int .i64 k ∧ (∀ j, j < k → kOf l j ≠ x) ∧ Below w.heap.size w wr)
    (fun i _ => l.length - (intOf i).toNat)
  case atStart => exact ⟨0, Nat.zero_le _, rfl, fun i hi => absurd hi (Nat.not_lt_zero _), Below.refl _ _⟩
  case round =>
    obtain ⟨k, hkl, rfl, hall, hb⟩ := hrel
    have ALL : Hid (∀ j, j < k → kOf l j ≠ x) := hall
    clear hall
    by_cases hlt : k < l.length
    · have hal := ha (by omega)
      subst hal
      have d0 : wr.cell? ⟨b, off + k * 2, none⟩ = some (.int .i64 (kOf l k)) := (hb.cell (by exact cell_lt (hk k hlt))).trans (hk k hlt)
      have d1 : wr.cell? ⟨b, off + k * 2 + 1, none⟩ = some (.int .i64 (vOf l k)) := (hb.cell (by exact cell_lt (hv k hlt))).trans (hv k hlt)
      have hb' : ∀ o, Below w.heap.size w (wr.alloc o) := fun o => hb.alloc hb.size o
      by_cases hx : kOf l k = x
      · have G : Hid (getP l x = (vOf l k, true)) := getP_hit hlt ALL.out hx
        have hq : (kOf l k == x) = true := by simpa using hx
        clear hk hv hx
        go_wp2
        go_ret2
        exact ⟨ret_two G.out rfl rfl, hb' _⟩
      · have hq : (kOf l k == x) = false := by simpa using hx
        have HX : Hid (kOf l k ≠ x) := hx
        clear hk hv hx
        go_wp2
        go_roundw
        case rel => exact ⟨k + 1, by omega, by go_num, fun i hi => if h : i < k then ALL.out i h else by rw [show i = k by omega]; exact HX.out, hb' _⟩
        case measure => simp [intOf]; omega
    · have G : Hid (getP l x = (0, false)) := getP_none (fun j hj => ALL.out j (by omega))
      go_wp2
      go_ret2
      exact ⟨ret_two G.out rfl rfl, hb⟩

end Go.Proofs.YtmpiijphpnjlnaaGreat

namespace Go.Proofs.YtmpiijphpnjlnaaGreat
open Go.RowKit

theorem getP_in {l : PL} (h : MapP l) (k : Int) : -1000000000 ≤ (getP l k).1 ∧ (getP l k).1 ≤ 1000000000 := by
  have hh : ∀ l : PL, (∀ p ∈ l, PairIn p) → -1000000000 ≤ (getP l k).1 ∧ (getP l k).1 ≤ 1000000000 := by
    intro l
    induction l with
    | nil => intro _; simp [getP]
    | cons p l ih =>
      intro h
      rw [getP]
      split
      · exact (h p (by simp)).2
      · exact ih (fun q hq => h q (by simp [hq]))
  exact hh l h.2

theorem wrap_small (x : Int) (h1 : -4000000000 ≤ x) (h2 : x ≤ 4000000000) : IntKind.i64.wrap x = x := by rw [IntKind.wrap_i64]; omega
theorem room_row {n bytes : Nat} (h : n ≤ 8388608) (hb : bytes ≤ 256) : 0 + n ≤ maxLen ∧ (0 + n) * bytes ≤ 140737488355328 := by
  refine ⟨by unfold maxLen; omega, ?_⟩
  have : (0 + n) * bytes ≤ (0 + n) * 256 := Nat.mul_le_mul_left _ hb
  omega

theorem doL_bad {l : PL} {o k v : Int} (h : mapOkB l = false ∨ msgOkB o k v = false) : doL l (o, k, v) = l := by
  unfold doL
  rw [if_neg]
  rintro ⟨h1, h2⟩
  rcases h with h | h
  · rw [h] at h1; cases h1
  · simp only at h2; rw [h] at h2; cases h2
theorem doL_ok {l : PL} {o k v : Int} (h1 : mapOkB l = true) (h2 : msgOkB o k v = true) : doL l (o, k, v) = doP l (o, k, v) := by
  unfold doL; rw [if_pos ⟨h1, h2⟩]

set_option maxRecDepth 100000 in
set_option maxHeartbeats 2000000 in
theorem specMapDo_any (va : Value) (l : PL) (o k v : Int) (w : World) (h : Row w va l.length (flatP l)) (hn : l.length ≤ 2097152) :
    Calls Tryz.prog 46 #[va, .agg #[.int .i64 o, .int .i64 k, .int .i64 v]] w fun e w' => ∃ v', e = .returned v' ∧ w'.ownsRow w.heap.size 52 2 v' (doL l (o, k, v)).length (flatP (doL l (o, k, v))) ∧ Below w.heap.size w w' := by
  obtain ⟨i0, hi, hz0, hz1, hz2⟩ := info_parts Tryz.info52
  have b0 : Below w.heap.size w (w.alloc (.cells #[.int .i64 o, .int .i64 k, .int .i64 v] 37)) := (Below.refl _ _).alloc (Nat.le_refl _) _
  have RW : Hid (Row w va l.length (flatP l)) := h
  have HR : Hid _ := room_row (n := l.length) (bytes := 16) (by omega) (by decide)
  obtain ⟨a, b, off, cap, hva, _⟩ := h.pairs
  cases hM : mapOkB l
  · have E : Hid (doL l (o, k, v) = l) := doL_bad (Or.inl hM)
    clear h hva
    go_enter Tryz.func46, Tryz.ntmps46
    go_wp2_with fail
    refine (specMapOk_any va l _ (RW.out.below b0)).mono ?_
    rw [hM]
    rintro e w1 ⟨rfl, b1⟩
    have B1 : Below w.heap.size w w1 := Below.and b0 b1
    have B1s := B1.size
    have R1 : Row w1 va l.length (flatP l) := (RW.out.below b0).below b1
    have RR : Hid (Row w1 va l.length (flatP l)) := R1
    clear b0 b1 R1 hM
    have Hb : Hid (w.heap.size ≤ (w1.alloc (.cells #[] 52)).heap.size) := by show _ ≤ _; simp; omega
    go_wp2_with (at_builtin; refine app_row (w1.alloc (.cells #[] 52)) rfl _ _ 24 rfl w.heap.size 52 i0 _ 2 16 Tryz.underlying24 hi hz0 hz1 hz2 rfl (by decide) (.slice (some ⟨w1.heap.size, 0, none⟩) 0 0) 0 [] rfl (empty_own w1 w.heap.size 52 2 B1s) va l.length (flatP l) rfl (RR.out.below ((Below.refl _ _).alloc (Nat.le_refl _) _)) (flatP_length _) (flatP_one _) HR.out.1 HR.out.2 Hb.out ?_)
    intro v' w2 ho2 _ hb2
    have B2 : Below w.heap.size w w2 := (B1.alloc B1s _).trans hb2
    clear hb2 B1
    go_wp2
    go_ret
    rw [E.out]
    exact ⟨_, rfl, by simpa using ho2, B2⟩
  · have hmp : MapP l := (mapOkB_iff l).1 hM
    cases hG : msgOkB o k v
    · have E : Hid (doL l (o, k, v) = l) := doL_bad (Or.inr hG)
      clear h hva
      go_enter Tryz.func46, Tryz.ntmps46
      go_wp2_with fail
      refine (specMapOk_any va l _ (RW.out.below b0)).mono ?_
      rw [hM]
      rintro e w1 ⟨rfl, b1⟩
      have B1 : Below w.heap.size w w1 := Below.and b0 b1
      obtain ⟨hc, _⟩ := bcell b1
      have R1 : Row w1 va l.length (flatP l) := (RW.out.below b0).below b1
      have RR : Hid (Row w1 va l.length (flatP l)) := R1
      have B1' : Hid _ := B1
      clear b0 b1 R1 hM B1 hmp
      go_wp2_with fail
      refine (specMsgOk_any _ _ _ _).mono ?_
      rw [hG]
      rintro e w2 ⟨rfl, b2⟩
      have B2 : Below w.heap.size w w2 := Below.and B1'.out b2
      have R2 : Hid (Row w2 va l.length (flatP l)) := RR.out.below b2
      have B2s := B2.size
      clear hc b2 hG
      have Hb : Hid (w.heap.size ≤ (w2.alloc (.cells #[] 52)).heap.size) := by show _ ≤ _; simp; omega
      go_wp2_with (at_builtin; refine app_row (w2.alloc (.cells #[] 52)) rfl _ _ 24 rfl w.heap.size 52 i0 _ 2 16 Tryz.underlying24 hi hz0 hz1 hz2 rfl (by decide) (.slice (some ⟨w2.heap.size, 0, none⟩) 0 0) 0 [] rfl (empty_own w2 w.heap.size 52 2 B2s) va l.length (flatP l) rfl (R2.out.below ((Below.refl _ _).alloc (Nat.le_refl _) _)) (flatP_length _) (flatP_one _) HR.out.1 HR.out.2 Hb.out ?_)
      intro v' w3 ho3 _ hb3
      have B3 : Below w.heap.size w w3 := (B2.alloc B2s _).trans hb3
      clear hb3 B2
      go_wp2
      go_ret
      rw [E.out]
      exact ⟨_, rfl, by simpa using ho3, B3⟩
    · have E : Hid (doL l (o, k, v) = doP l (o, k, v)) := doL_ok hM hG
      obtain ⟨⟨ho1, ho4⟩, ⟨hk0, hk9⟩, hv0, hv9⟩ := msgOkB_in hG
      obtain ⟨hg0, hg9⟩ := getP_in hmp k
      have ASC : Hid (Asc l) := hmp.1
      clear h hva
      go_enter Tryz.func46, Tryz.ntmps46
      go_wp2_with fail
      refine (specMapOk_any va l _ (RW.out.below b0)).mono ?_
      rw [hM]
      rintro e w1 ⟨rfl, b1⟩
      have B1 : Below w.heap.size w w1 := Below.and b0 b1
      obtain ⟨hc, _⟩ := bcell b1
      have R1 : Row w1 va l.length (flatP l) := (RW.out.below b0).below b1
      have RR : Hid (Row w1 va l.length (flatP l)) := R1
      have B1' : Hid (Below w.heap.size w w1) := B1
      have b1' : Hid _ := b1
      clear b1 R1 hM B1 hmp
      go_wp2_with fail
      refine (specMsgOk_any _ _ _ _).mono ?_
      rw [hG]
      rintro e w2 ⟨rfl, b2⟩
      have B2 : Below w.heap.size w w2 := Below.and B1'.out b2
      have R2 : Hid (Row w2 va l.length (flatP l)) := RR.out.below b2
      have b3 := Below.and b1'.out b2
      obtain ⟨hc3, _⟩ := bcell b3
      have B2' : Hid (Below w.heap.size w w2) := B2
      clear hc b2 hG b1' B1' RR b3 B2 b0
      go_wp2_with fail
      refine (specMapGet_any _ l _ _ R2.out).mono ?_
      rintro e w3 ⟨rfl, rfl⟩
      generalize hgp : getP l k = G at *
      obtain ⟨g, gb⟩ := G
      simp only at hg0 hg9
      rcases (show o = 1 ∨ o = 2 ∨ o = 3 ∨ o = 4 from by omega) with rfl | rfl | rfl | rfl
      · have E2 : Hid (doP l (1, k, v) = putF l k v) := by show doP _ _ = _; simp [doP]
        clear hgp
        go_wp2_with fail
        refine (l1Put_any _ l _ _ _ R2.out hn ASC.out).mono ?_
        rintro e w4 ⟨v', rfl, o4, b4⟩
        go_wp2
        go_ret
        rw [E.out, E2.out]
        exact ⟨_, rfl, owns_mono o4 B2'.out.size, Below.and B2'.out b4⟩
      · have E2 : Hid (doP l (2, k, v) = delF l k) := by show doP _ _ = _; simp [doP]
        clear hgp
        go_wp2_with fail
        refine (l1Without_any _ l _ _ R2.out (by omega)).mono ?_
        rintro e w4 ⟨v', rfl, o4, b4⟩
        go_wp2
        go_ret
        rw [E.out, E2.out]
        exact ⟨_, rfl, owns_mono o4 B2'.out.size, Below.and B2'.out b4⟩
      · have E2 : Hid (doP l (3, k, v) = putF l k (clampI (g + v))) := by show doP _ _ = _; simp [doP, hgp]
        have hw : IntKind.i64.wrap (g + v) = g + v := wrap_small _ (by omega) (by omega)
        clear hgp
        go_wp2_with fail
        go_region_with (first | (go_at_call 72; refine (l1Clamp_any _ _).mono ?_; rintro e w' ⟨rfl, rfl⟩) | (go_at_call 70; refine (l1Put_any _ l _ _ _ (R2.out.below (by exact (Below.refl _ _).drew)) hn ASC.out).mono ?_; rintro e w4 ⟨v', rfl, o4, b4⟩))
        all_goals
          go_wp2
          go_ret
          rw [E.out, E2.out]
          exact ⟨_, rfl, owns_mono o4 B2'.out.size, B2'.out.drew.trans (b4.mono B2'.out.size)⟩
      · have E2 : Hid (doP l (4, k, v) = l) := by show doP _ _ = _; simp [doP]
        clear hgp
        have B2s := B2'.out.size
        have Hb : Hid (w.heap.size ≤ (w3.alloc (.cells #[] 52)).heap.size) := by show _ ≤ _; simp; omega
        go_wp2_with (at_builtin; refine app_row (w3.alloc (.cells #[] 52)) rfl _ _ 24 rfl w.heap.size 52 i0 _ 2 16 Tryz.underlying24 hi hz0 hz1 hz2 rfl (by decide) (.slice (some ⟨w3.heap.size, 0, none⟩) 0 0) 0 [] rfl (empty_own w3 w.heap.size 52 2 B2s) va l.length (flatP l) rfl (R2.out.below ((Below.refl _ _).alloc (Nat.le_refl _) _)) (flatP_length _) (flatP_one _) HR.out.1 HR.out.2 Hb.out ?_)
        intro v' w4 ho3 _ hb3
        have B3 : Below w.heap.size w w4 := (B2'.out.alloc B2s _).trans hb3
        clear hb3
        go_wp2
        go_ret
        rw [E.out, E2.out]
        exact ⟨_, rfl, by simpa using ho3, B3⟩

end Go.Proofs.YtmpiijphpnjlnaaGreat

namespace Go.Proofs.YtmpiijphpnjlnaaGreat
open Go.RowKit

/-- THE SORTED MAP AT BLOCK B IS THE MAP l. -/
def SrtM (w : World) (B : Nat) (F : Nat → Prop) (l : PL) : Prop := Srt w B F (keys l) (vals l)
theorem SrtM.below {w w' : World} {B : Nat} {F : Nat → Prop} {l : PL} (h : SrtM w B F l) (hb : Below w.heap.size w w') : SrtM w' B F l := Srt.chg h (Chg.of_below (F := fun _ => False) hb) (fun _ _ e => e)

theorem put_map (B : Nat) (F : Nat → Prop) (l : PL) (k v : Int) (w : World) (h : SrtM w B F l) (hs : Asc l) (hbig : l.length ≤ 1048576) :
    Calls Tryz.prog 62 #[.pointer (some ⟨B, 0, none⟩), .int .i64 k, .int .i64 v] w fun e w' =>
      e = .returned (.tuple #[]) ∧ ∃ F', SrtM w' B F' (putF l k v) ∧ Chg F w w' ∧ (∀ g, F' g → F g ∨ w.heap.size ≤ g) := by
  have hl : (vals l).length = (keys l).length := by rw [keys_length, vals_length]
  have hb : (keys l).length ≤ 1048576 := by rw [keys_length]; exact hbig
  cases hf : (keys l).contains k
  · refine (put_new B F (keys l) (vals l) k v w h hs.le hl hb hf).mono ?_
    rintro e w' ⟨rfl, F', h1, h2, h3⟩
    refine ⟨rfl, F', ?_, h2, h3⟩
    obtain ⟨e1, e2⟩ := put_new_keys (v := v) hs hf
    rw [SrtM, e1, e2]; exact h1
  · refine (put_found B F (keys l) (vals l) k v w h hs.le hl hb hf).mono ?_
    rintro e w' ⟨rfl, F', h1, h2, h3⟩
    refine ⟨rfl, F', ?_, h2, h3⟩
    obtain ⟨e1, e2⟩ := put_found_keys (v := v) hs hf
    rw [SrtM, e1, e2]; exact h1

theorem drop_map (B : Nat) (F : Nat → Prop) (l : PL) (k : Int) (w : World) (h : SrtM w B F l) (hs : Asc l) (hbig : l.length ≤ 1048576) :
    Calls Tryz.prog 65 #[.pointer (some ⟨B, 0, none⟩), .int .i64 k] w fun e w' =>
      e = .returned (.tuple #[]) ∧ ∃ F', SrtM w' B F' (delF l k) ∧ Chg F w w' ∧ (∀ g, F' g → F g ∨ w.heap.size ≤ g) := by
  have hl : (vals l).length = (keys l).length := by rw [keys_length, vals_length]
  have hb : (keys l).length ≤ 1048576 := by rw [keys_length]; exact hbig
  cases hf : (keys l).contains k
  · refine (drop_none B F (keys l) (vals l) k w h hs.le hb hf).mono ?_
    rintro e w' ⟨rfl, q, rfl⟩
    refine ⟨rfl, F, ?_, (Chg.refl _ _).drewN q, fun _ hg => Or.inl hg⟩
    rw [del_none hf]
    exact SrtM.below h (below_drewN (Below.refl _ _) q)
  · refine (drop_found B F (keys l) (vals l) k w h hs.le hl hb hf).mono ?_
    rintro e w' ⟨rfl, F', h1, h2, h3⟩
    refine ⟨rfl, F', ?_, h2, h3⟩
    obtain ⟨e1, e2⟩ := del_found_keys hs hf
    rw [SrtM, e1, e2]; exact h1

theorem get_map (B : Nat) (F : Nat → Prop) (l : PL) (k : Int) (w : World) (h : SrtM w B F l) (hs : Asc l) (hbig : l.length ≤ 1048576) :
    Calls Tryz.prog 66 #[.pointer (some ⟨B, 0, none⟩), .int .i64 k] w fun e w' => e = .returned (.tuple #[.int .i64 (getP l k).1, .bool (getP l k).2]) ∧ ∃ q, w' = w.drewN q := by
  have hl : (vals l).length = (keys l).length := by rw [keys_length, vals_length]
  have hb : (keys l).length ≤ 1048576 := by rw [keys_length]; exact hbig
  have := get_any B F (keys l) (vals l) k w h hs.le hl hb
  rw [show getS (keys l) (vals l) k = getP l k from get_keys hs k] at this
  exact this

set_option maxRecDepth 100000 in
set_option maxHeartbeats 2000000 in
theorem turn_any (B : Nat) (F : Nat → Prop) (l : PL) (o k v : Int) (w : World) (h : SrtM w B F l) (hmp : MapP l) (hm : msgOkB o k v = true) (hbig : l.length ≤ 1048576) :
    Calls Tryz.prog 44 #[.pointer (some ⟨B, 0, none⟩), encC (o, k, v)] w fun e w' =>
      e = .returned (.tuple #[]) ∧ ∃ F', SrtM w' B F' (doP l (o, k, v)) ∧ Chg F w w' ∧ (∀ g, F' g → F g ∨ w.heap.size ≤ g) := by
  obtain ⟨⟨ho1, ho4⟩, _, hv0, hv9⟩ := msgOkB_in hm
  obtain ⟨hg0, hg9⟩ := getP_in hmp k
  have ASC : Hid (Asc l) := hmp.1
  have SH : Hid (SrtM w B F l) := h
  clear h hmp hm
  rcases (show o = 1 ∨ o = 2 ∨ o = 3 ∨ o = 4 from by omega) with rfl | rfl | rfl | rfl
  · have E : Hid (doP l (1, k, v) = putF l k v) := by show doP _ _ = _; simp [doP]
    rw [show encC (1, k, v) = .iface 100 (.agg #[.int .i64 k, .int .i64 v]) from rfl]
    have b0 : Below w.heap.size w (w.alloc (.cells #[.int .i64 k, .int .i64 v] 100)) := (Below.refl _ _).alloc (Nat.le_refl _) _
    have S0 : Hid _ := And.intro (SH.out.below b0) b0
    clear b0
    have t99 := ta_99_99 k v
    go_enter Tryz.func44, Tryz.ntmps44
    go_wp2_with fail
    refine (put_map B F l _ _ _ S0.out.1 ASC.out hbig).mono ?_
    rintro e w1 ⟨rfl, F', h1, h2, h3⟩
    have FIN : Hid _ := And.intro h1 (And.intro ((Chg.of_below S0.out.2).trans h2 (fun _ _ e => e)) h3)
    clear h1 h2 h3
    go_wp2
    go_end0
    rw [E.out]
    exact ⟨rfl, F', FIN.out.1, FIN.out.2.1, fun g hg => (FIN.out.2.2 g hg).imp id (fun h => Nat.le_trans S0.out.2.size h)⟩
  · have E : Hid (doP l (2, k, v) = delF l k) := by show doP _ _ = _; simp [doP]
    rw [show encC (2, k, v) = .iface 102 (.agg #[.int .i64 k]) from rfl]
    have b0 : Below w.heap.size w (w.alloc (.cells #[.int .i64 k] 102)) := (Below.refl _ _).alloc (Nat.le_refl _) _
    have S0 : Hid _ := And.intro (SH.out.below b0) b0
    clear b0
    have t99 := ta_105_99 k
    have t105 := ta_105_105 k
    go_enter Tryz.func44, Tryz.ntmps44
    go_wp2_with fail
    refine (drop_map B F l _ _ S0.out.1 ASC.out hbig).mono ?_
    rintro e w1 ⟨rfl, F', h1, h2, h3⟩
    have FIN : Hid _ := And.intro h1 (And.intro ((Chg.of_below S0.out.2).trans h2 (fun _ _ e => e)) h3)
    clear h1 h2 h3
    go_wp2
    go_end0
    rw [E.out]
    exact ⟨rfl, F', FIN.out.1, FIN.out.2.1, fun g hg => (FIN.out.2.2 g hg).imp id (fun h => Nat.le_trans S0.out.2.size h)⟩
  · have E : Hid (doP l (3, k, v) = putF l k (clampI ((getP l k).1 + v))) := by show doP _ _ = _; simp [doP]
    rw [show encC (3, k, v) = .iface 104 (.agg #[.int .i64 k, .int .i64 v]) from rfl]
    have b0 : Below w.heap.size w (w.alloc (.cells #[.int .i64 k, .int .i64 v] 104)) := (Below.refl _ _).alloc (Nat.le_refl _) _
    have S0 : Hid (SrtM (w.alloc (.cells #[.int .i64 k, .int .i64 v] 104)) B F l) := SH.out.below b0
    have B0 : Hid _ := b0
    clear b0
    have t99 := ta_101_99 k v
    have t105 := ta_101_105 k v
    have t101 := ta_101_101 k v
    go_enter Tryz.func44, Tryz.ntmps44
    go_wp2_with fail
    refine (get_map B F l _ _ S0.out ASC.out hbig).mono ?_
    rintro e w1 ⟨rfl, q, rfl⟩
    generalize (getP l k).1 = g at *
    generalize (getP l k).2 = gb at *
    have S1 : Hid (∀ n, SrtM ((w.alloc (.cells #[.int .i64 k, .int .i64 v] 104)).drewN n) B F l) := fun n => S0.out.below (below_drewN (Below.refl _ _) n)
    clear t99 t105 t101
    go_wp2_with fail
    go_region_with (first | (go_at_call 67; refine (limitedSum_any _ _ _ hg0 hg9 hv0 hv9).mono ?_; rintro e w' ⟨rfl, rfl⟩) | (go_at_call 62; refine (put_map B F l _ _ _ (by exact SrtM.below (S1.out q) (Below.refl _ _).drew) ASC.out hbig).mono ?_; rintro e w1 ⟨rfl, F', h1, h2, h3⟩))
    all_goals
      have FIN : Hid _ := And.intro h1 (And.intro ((Chg.of_below (F := F) ((below_drewN B0.out q).drew)).trans h2 (fun _ _ e => e)) h3)
      clear h1 h2 h3
      go_wp2
      go_end0
      rw [E.out]
      exact ⟨rfl, F', FIN.out.1, FIN.out.2.1, fun g' hg' => (FIN.out.2.2 g' hg').imp id (fun h => Nat.le_trans B0.out.size h)⟩
  · have E : Hid (doP l (4, k, v) = l) := by show doP _ _ = _; simp [doP]
    rw [show encC (4, k, v) = .iface 107 (.agg #[.int .i64 k]) from rfl]
    have b0 : Below w.heap.size w (w.alloc (.cells #[.int .i64 k] 107)) := (Below.refl _ _).alloc (Nat.le_refl _) _
    have S0 : Hid _ := And.intro (SH.out.below b0) b0
    clear b0
    have t99 := ta_107_99 k
    have t105 := ta_107_105 k
    have t101 := ta_107_101 k
    have t107 := ta_107_107 k
    go_enter Tryz.func44, Tryz.ntmps44
    go_wp2
    go_end0
    rw [E.out]
    exact ⟨rfl, F, S0.out.1, Chg.of_below S0.out.2, fun g hg => Or.inl hg⟩

theorem putF_end {A : PL} {p : Int × Int} (h : ∀ q ∈ A, q.1 < p.1) : putF A p.1 p.2 = A ++ [p] := by
  have h1 : A.filter (fun q => decide (q.1 < p.1)) = A := List.filter_eq_self.2 (fun q hq => by have := h q hq; simp; omega)
  have h2 : A.filter (fun q => decide (p.1 < q.1)) = [] := List.filter_eq_nil_iff.2 (fun q hq => by have := h q hq; simp; omega)
  rw [putF, h1, h2]
theorem asc_take {l : PL} (h : Asc l) (k : Nat) : Asc (l.take k) := by
  have : keys (l.take k) = (keys l).take k := by simp [keys, List.map_take]
  rw [Asc, this]
  exact List.Pairwise.sublist (List.take_sublist _ _) h
theorem asc_take_lt {l : PL} (h : Asc l) (k : Nat) (hk : k < l.length) : ∀ q ∈ l.take k, q.1 < kOf l k := by
  intro q hq
  obtain ⟨i, hi, rfl⟩ := List.getElem_of_mem hq
  have hik : i < k := by simp at hi; omega
  have hil : i < l.length := by omega
  have := List.pairwise_iff_getElem.1 (List.pairwise_map.1 h) i k hil hk hik
  simp only [kOf, List.getD, List.getElem?_eq_getElem hk, Option.getD_some, List.getElem_take]
  exact this
theorem take_put {l : PL} (h : Asc l) (k : Nat) (hk : k < l.length) : putF (l.take k) (kOf l k) (vOf l k) = l.take (k + 1) := by
  rw [take_succP l k hk]
  exact putF_end (p := (kOf l k, vOf l k)) (asc_take_lt h k hk)

end Go.Proofs.YtmpiijphpnjlnaaGreat

namespace Go.Proofs.YtmpiijphpnjlnaaGreat
open Go.RowKit

theorem owns_base {w : World} {base e size n : Nat} {v : Value} {xs : List Value} (h : w.ownsRow 0 e size v n xs) (hb : ∀ g, v.ownBlock = some g → base ≤ g) : w.ownsRow base e size v n xs := by
  obtain ⟨hl, h | ⟨g, cap, cur, rfl, hg, hh, hn, hcap, hsz, htake⟩⟩ := h
  · exact ⟨hl, .inl h⟩
  · exact ⟨hl, .inr ⟨g, cap, cur, rfl, hb g rfl, hh, hn, hcap, hsz, htake⟩⟩

set_option maxRecDepth 100000 in
set_option maxHeartbeats 2000000 in
theorem sortedOf_any (va : Value) (l : PL) (w : World) (h : Row w va l.length (flatP l)) (hasc : Asc l) (hn : l.length ≤ 1048576) :
    Calls Tryz.prog 42 #[va] w fun e w' => ∃ kv vv, e = .returned (.agg #[kv, vv]) ∧ w'.ownsRow w.heap.size 3 1 kv l.length ((keys l).map (Value.int .i64)) ∧ w'.ownsRow w.heap.size 3 1 vv l.length ((vals l).map (Value.int .i64)) ∧
      (∀ g, kv.ownBlock = some g → vv.ownBlock ≠ some g) ∧ Below w.heap.size w w' := by
  obtain ⟨a, b, off, cap, rfl, hcap, hmax, ha, hk, hv⟩ := h.pairs
  unfold maxLen at hmax
  have ASC : Hid (Asc l) := hasc
  clear hasc h
  have hs0 : ((w.alloc (.cells #[.slice none 0 0, .slice none 0 0] 66)).alloc (.cells #[.slice none 0 0, .slice none 0 0] 66)).heap.size = w.heap.size + 1 + 1 := by simp
  have hs1 : (w.alloc (.cells #[.slice none 0 0, .slice none 0 0] 66)).heap.size = w.heap.size + 1 := by simp
  have hB0 : ((w.alloc (.cells #[.slice none 0 0, .slice none 0 0] 66)).alloc (.cells #[.slice none 0 0, .slice none 0 0] 66)).heap[w.heap.size + 1]? = some (.cells #[.slice none 0 0, .slice none 0 0] 66 (0, 0)) := by
    rw [← hs1]; exact heap_alloc_new _ _
  have hA0 : ((w.alloc (.cells #[.slice none 0 0, .slice none 0 0] 66)).alloc (.cells #[.slice none 0 0, .slice none 0 0] 66)).heap[w.heap.size]? = some (.cells #[.slice none 0 0, .slice none 0 0] 66 (0, 0)) := by
    rw [Below.heap_alloc _ _ _ (by omega)]; exact heap_alloc_new _ _
  have START : Hid (SrtM ((w.alloc (.cells #[.slice none 0 0, .slice none 0 0] 66)).alloc (.cells #[.slice none 0 0, .slice none 0 0] 66)) (w.heap.size + 1) (fun g => g = w.heap.size + 1) []) :=
    ⟨.slice none 0 0, .slice none 0 0, hB0, World.ownsRow_nil _ _ _ _, World.ownsRow_nil _ _ _ _, fun g hg => by simp [Value.ownBlock] at hg, rfl, fun g hg => by simp [Value.ownBlock] at hg, fun g hg => by simp [Value.ownBlock] at hg⟩
  have b0 : Below w.heap.size w ((w.alloc (.cells #[.slice none 0 0, .slice none 0 0] 66)).alloc (.cells #[.slice none 0 0, .slice none 0 0] 66)) := ((Below.refl _ _).alloc (Nat.le_refl _) _).alloc (by simp) _
  have BB : Hid _ := b0
  have HA : Hid _ := hA0
  clear b0 hA0 hB0
  go_enter Tryz.func42, Tryz.ntmps42
  go_wp2
  generalize hW0 : (w.alloc (.cells #[.slice none 0 0, .slice none 0 0] 66)).alloc (.cells #[.slice none 0 0, .slice none 0 0] 66) = W0 at *
  clear hW0
  go_loopw [8] (fun i wr => ∃ (k : Nat) (F : Nat → Prop), k ≤ l.length ∧ i = .int .i64 k ∧ SrtM wr (w.heap.size + 1) F (l.take k) ∧ (∀ g, F g → w.heap.size + 1 ≤ g) ∧ Below (w.heap.size + 1) W0 wr)
    (fun i _ => l.length - (intOf i).toNat)
  case atStart => exact ⟨0, _, Nat.zero_le _, rfl, START.out, fun g hg => by omega, Below.refl _ _⟩
  case round =>
    obtain ⟨k, F, hkl, rfl, hsrt, hF, hb⟩ := hrel
    have hbw : Below w.heap.size w wr := BB.out.trans (hb.mono (by omega))
    have hbs := hb.size
    by_cases hlt : k < l.length
    · have hal := ha (by omega)
      subst hal
      have d0 := (hbw.cell (by exact cell_lt (hk k hlt))).trans (hk k hlt)
      have d1 := (hbw.cell (by exact cell_lt (hv k hlt))).trans (hv k hlt)
      have TP : Hid _ := take_put ASC.out k hlt
      have htl : (l.take k).length ≤ k := List.length_take_le _ _
      have AT : Hid _ := asc_take ASC.out k
      have ba : Below wr.heap.size wr (wr.alloc (.cells #[.int .i64 (kOf l k), .int .i64 (vOf l k)] 52)) := (Below.refl _ _).alloc (Nat.le_refl _) _
      have SA : Hid _ := SrtM.below hsrt ba
      have INFO : Hid _ := And.intro ba (And.intro hF hb)
      clear hk hv hsrt hF hb hbw ba
      go_wp2_with fail
      refine (put_map (w.heap.size + 1) F (l.take k) _ _ _ SA.out AT.out (by omega)).mono ?_
      rintro e w1 ⟨rfl, F', h1, h2, h3⟩
      obtain ⟨ba, hF, hb⟩ := INFO.out
      have hc : Chg F wr w1 := (Chg.of_below ba).trans h2 (fun _ _ e => e)
      have B1 : Below (w.heap.size + 1) W0 w1 := hb.trans (hc.below (fun g _ hg => hF g hg) (by omega))
      have F1 : ∀ g, F' g → w.heap.size + 1 ≤ g := fun g hg => (h3 g hg).elim (hF g) (fun hh => by have := ba.size; omega)
      rw [TP.out] at h1
      have FIN : Hid _ := And.intro h1 (And.intro F1 B1)
      clear h1 h2 h3 hc B1 F1 ba hF hb INFO
      go_wp2
      go_roundw
      case rel => exact ⟨k + 1, F', by omega, by go_num, FIN.out.1, FIN.out.2.1, FIN.out.2.2⟩
      case measure => simp [intOf]; omega
    · have hkk : k = l.length := by omega
      subst hkk
      rw [List.take_of_length_le (Nat.le_refl _)] at hsrt
      obtain ⟨kv, vv, h1, h2, h3, h4, h5, h6, h7⟩ := hsrt
      obtain ⟨ka, kc, hkv⟩ := owns_val h2
      obtain ⟨vva, vc, hvv⟩ := owns_val h3
      have c0 : wr.cell? ⟨w.heap.size + 1, 0, none⟩ = some kv := by rw [cell_of_cells h1]; rfl
      have c1 : wr.cell? ⟨w.heap.size + 1, 1, none⟩ = some vv := by rw [cell_of_cells h1]; rfl
      have hA := (hb.block w.heap.size (by omega)).trans HA.out
      have e0 : wr.cell? ⟨w.heap.size, 0, none⟩ = some (.slice none 0 0) := by rw [cell_of_cells hA]; rfl
      have e1 : wr.cell? ⟨w.heap.size, 1, none⟩ = some (.slice none 0 0) := by rw [cell_of_cells hA]; rfl
      have f0 : wr.frozen? ⟨w.heap.size, 0, none⟩ = false := frozen_of_cells hA
      have f1 : wr.frozen? ⟨w.heap.size, 1, none⟩ = false := frozen_of_cells hA
      have hch : Chg (fun g => g = w.heap.size) wr ((wr.setCell ⟨w.heap.size, 0, none⟩ kv).setCell ⟨w.heap.size, 1, none⟩ vv) := Chg.setAt (F := fun g => g = w.heap.size) (Chg.setAt (F := fun g => g = w.heap.size) (Chg.refl _ _) _ _ rfl _) _ _ rfl _
      have k2 := owns_base (base := w.heap.size) (owns_chg h2 hch (fun g hg e => by have := hF g (h6 g hg); omega)) (fun g hg => by have := hF g (h6 g hg); omega)
      have v2 := owns_base (base := w.heap.size) (owns_chg h3 hch (fun g hg e => by have := hF g (h7 g hg); omega)) (fun g hg => by have := hF g (h7 g hg); omega)
      have B2 : Below w.heap.size w ((wr.setCell ⟨w.heap.size, 0, none⟩ kv).setCell ⟨w.heap.size, 1, none⟩ vv) := (hbw.setCell (Nat.le_refl _) _).setCell (Nat.le_refl _) _
      rw [keys_length] at k2 hkv
      rw [vals_length] at v2 hvv
      rw [hkv] at c0 k2 h4 B2 v2
      rw [hvv] at c1 v2 h4 B2 k2
      have hA2 : ((wr.setCell ⟨w.heap.size, 0, none⟩ (.slice ka l.length kc)).setCell ⟨w.heap.size, 1, none⟩ (.slice vva l.length vc)).heap[w.heap.size]? = some (.cells #[.slice ka l.length kc, .slice vva l.length vc] 66 (0, 0)) := by
        rw [heap_setCell_same _ _ _ _ _ _ (heap_setCell_same wr _ _ _ _ _ hA)]; rfl
      have q0 : ((wr.setCell ⟨w.heap.size, 0, none⟩ (.slice ka l.length kc)).setCell ⟨w.heap.size, 1, none⟩ (.slice vva l.length vc)).cell? ⟨w.heap.size, 0, none⟩ = some (.slice ka l.length kc) := by rw [cell_of_cells hA2]; rfl
      have q1 : ((wr.setCell ⟨w.heap.size, 0, none⟩ (.slice ka l.length kc)).setCell ⟨w.heap.size, 1, none⟩ (.slice vva l.length vc)).cell? ⟨w.heap.size, 1, none⟩ = some (.slice vva l.length vc) := by rw [cell_of_cells hA2]; rfl
      have FIN : Hid _ := And.intro k2 (And.intro v2 (And.intro h4 B2))
      clear h1 h2 h3 h4 h5 h6 h7 hkv hvv hA hA2 hch k2 v2 B2 hF hb hbw hbs hk hv
      go_wp2
      refine bodyPost_ret (v := .agg #[.slice ka l.length kc, .slice vva l.length vc]) (by simp [results, Tryz.results42, go_sem, q0, q1]) rfl ?_
      exact ⟨_, _, rfl, FIN.out.1, FIN.out.2.1, FIN.out.2.2.1, FIN.out.2.2.2⟩

theorem keys_at (l : PL) (i : Nat) (h : i < l.length) : ((keys l).map (Value.int .i64))[i]? = some (.int .i64 (kOf l i)) := by simp [keys, kOf, List.getD, h]
theorem vals_at (l : PL) (i : Nat) (h : i < l.length) : ((vals l).map (Value.int .i64))[i]? = some (.int .i64 (vOf l i)) := by simp [vals, vOf, List.getD, h]

set_option maxRecDepth 100000 in
set_option maxHeartbeats 2000000 in
theorem pairsOf_any (kv vv : Value) (l : PL) (w : World) (h1 : Row w kv l.length ((keys l).map (Value.int .i64))) (h2 : Row w vv l.length ((vals l).map (Value.int .i64))) (hn : l.length ≤ 2097152) :
    Calls Tryz.prog 45 #[.agg #[kv, vv]] w fun e w' => ∃ v', e = .returned v' ∧ w'.ownsRow w.heap.size 52 2 v' l.length (flatP l) ∧ Below w.heap.size w w' := by
  obtain ⟨i0, hi, hz0, hz1, hz2⟩ := info_parts Tryz.info52
  obtain ⟨a, b, off, cap, rfl, hcap, hmax, ha, hk, _⟩ := h1
  obtain ⟨a2, b2, off2, cap2, rfl, hcap2, hmax2, ha2, hv, _⟩ := h2
  unfold maxLen at hmax hmax2
  have b0 : Below w.heap.size w (w.alloc (.cells #[.slice a l.length cap, .slice a2 l.length cap2] 66)) := (Below.refl _ _).alloc (Nat.le_refl _) _
  have hs0 : (w.alloc (.cells #[.slice a l.length cap, .slice a2 l.length cap2] 66)).heap.size = w.heap.size + 1 := by simp
  have hB := heap_alloc_new w (.cells #[.slice a l.length cap, .slice a2 l.length cap2] 66)
  have BB : Hid _ := And.intro b0 hB
  clear b0 hB
  go_enter Tryz.func45, Tryz.ntmps45
  go_wp2
  generalize hW0 : w.alloc (.cells #[.slice a l.length cap, .slice a2 l.length cap2] 66) = W0 at *
  clear hW0
  go_loopw [3, 9] (fun out i wr => ∃ k : Nat, k ≤ l.length ∧ i = .int .i64 k ∧ wr.ownsRow (w.heap.size + 1) 52 2 out (l.take k).length (flatP (l.take k)) ∧ Below (w.heap.size + 1) W0 wr)
    (fun _ i _ => l.length - (intOf i).toNat)
  case atStart => exact ⟨0, Nat.zero_le _, rfl, World.ownsRow_nil _ _ _ _, Below.refl _ _⟩
  case round =>
    obtain ⟨k, hkl, rfl, hown, hb⟩ := hrel
    have hbw : Below w.heap.size w wr := BB.out.1.trans (hb.mono (by omega))
    have hbs := hb.size
    by_cases hlt : k < l.length
    · have hal := ha (by omega)
      subst hal
      have hal2 := ha2 (by omega)
      subst hal2
      have c0 := hk k _ (keys_at l k hlt)
      have c1 := hv k _ (vals_at l k hlt)
      have d0 := (hbw.cell (by exact cell_lt c0)).trans c0
      have d1 := (hbw.cell (by exact cell_lt c1)).trans c1
      have hA := (hb.block w.heap.size (by omega)).trans BB.out.2
      have e1 : wr.cell? ⟨w.heap.size, 1, none⟩ = some (.slice (some ⟨b2, off2, none⟩) l.length cap2) := by rw [cell_of_cells hA]; rfl
      have DS : Hid _ := take_succP l k hlt
      have htl : (l.take k).length ≤ k := List.length_take_le _ _
      generalize l.take k = D at *
      have HR : Hid _ := room_of (n := D.length) (bytes := 16) (by omega) (by decide)
      have hbs1 : w.heap.size + 1 ≤ wr.heap.size := by omega
      clear hk hv c0 c1 hA hbw
      go_wp2_with (at_builtin; refine app_one wr rfl _ _ 24 rfl (w.heap.size + 1) 52 i0 _ 2 16 Tryz.underlying24 hi hz0 hz1 hz2 rfl (by decide) u3 _ _ rfl hown [.int .i64 (kOf l k), .int .i64 (vOf l k)] rfl rfl (two_one _ _) HR.out.1 HR.out.2 hbs1 ?_)
      intro v1 w1 ho1 _ hb1
      rw [flatP_snoc] at ho1
      have hb2 := hb.trans hb1
      clear d0 d1 hown hb hb1 hbs
      go_wp2
      go_roundw
      case rel => exact ⟨k + 1, by omega, by go_num, by rw [DS.out, List.length_append]; exact ho1, hb2⟩
      case measure => simp [intOf]; omega
    · have hkk : k = l.length := by omega
      subst hkk
      rw [List.take_of_length_le (Nat.le_refl _)] at hown
      have FIN : Hid _ := And.intro (owns_mono hown (show w.heap.size ≤ w.heap.size + 1 by omega)) hbw
      clear hown hbw hb
      go_wp2
      go_ret
      exact ⟨_, rfl, FIN.out.1, FIN.out.2⟩

end Go.Proofs.YtmpiijphpnjlnaaGreat

namespace Go.Proofs.YtmpiijphpnjlnaaGreat
open Go.RowKit

theorem allL_ok {l : PL} (h : MapP l) (ms : ML) : allL l ms = (okMs ms).foldl doP l := by
  induction ms generalizing l with
  | nil => rfl
  | cons m ms ih =>
    have hM : mapOkB l = true := (mapOkB_iff l).2 h
    obtain ⟨o, k, v⟩ := m
    cases hq : msgOkB o k v
    · rw [allL, List.foldl_cons, doL_bad (Or.inr hq), okMs, List.filter_cons_of_neg (by simp [okM, hq])]
      exact ih h
    · rw [allL, List.foldl_cons, doL_ok hM hq, okMs, List.filter_cons_of_pos (by simp [okM, hq]), List.foldl_cons]
      exact ih (doP_mapP h hq)
theorem foldP_mapP {l : PL} (h : MapP l) (ms : ML) (hm : ∀ m ∈ ms, okM m = true) : MapP (ms.foldl doP l) := by
  induction ms generalizing l with
  | nil => exact h
  | cons m ms ih => exact ih (doP_mapP h (hm m (by simp))) (fun q hq => hm q (by simp [hq]))
theorem asc_length (l : PL) (h : Asc l) (a : Int) (ha : ∀ p ∈ l, a ≤ p.1 ∧ p.1 ≤ 999) (ha2 : a ≤ 1000) : (l.length : Int) ≤ 1000 - a := by
  induction l generalizing a with
  | nil => simp; omega
  | cons p l ih =>
    obtain ⟨h1, h2⟩ := h.cons
    have hp := ha p (by simp)
    have := ih h2 (p.1 + 1) (fun q hq => ⟨by have := h1 q hq; omega, (ha q (by simp [hq])).2⟩) (by omega)
    simp only [List.length_cons]
    omega
theorem mapP_length {l : PL} (h : MapP l) : l.length ≤ 1000 := by
  have := asc_length l h.1 0 (fun p hp => (h.2 p hp).1) (by omega)
  omega
theorem foldP_length (l : PL) (ms : ML) : (ms.foldl doP l).length ≤ l.length + ms.length := by
  induction ms generalizing l with
  | nil => simp
  | cons m ms ih =>
    have h1 := ih (doP l m)
    have h2 := doP_length l m
    simp only [List.foldl_cons, List.length_cons] at *
    omega
theorem foldP_succ (l : PL) (ms : ML) (k : Nat) (h : k < ms.length) : (ms.take (k + 1)).foldl doP l = doP ((ms.take k).foldl doP l) (mO ms k, mK ms k, mV ms k) := by
  rw [take_succM ms k h, List.foldl_append]; rfl

theorem SrtM.lt {w : World} {B : Nat} {F : Nat → Prop} {l : PL} (h : SrtM w B F l) : B < w.heap.size := by
  obtain ⟨kv, vv, h1, _⟩ := h
  exact (Array.getElem?_eq_some_iff.1 h1).1

set_option maxRecDepth 100000 in
set_option maxHeartbeats 4000000 in
theorem implMapAll_any (va vm : Value) (l : PL) (ms : ML) (w : World) (h : Row w va l.length (flatP l)) (hm : Row w vm ms.length (flatM ms)) (hn : l.length + ms.length ≤ 2097152) :
    Calls Tryz.prog 25 #[va, vm] w fun e w' => ∃ v', e = .returned v' ∧ w'.ownsRow w.heap.size 52 2 v' (allL l ms).length (flatP (allL l ms)) ∧ Below w.heap.size w w' := by
  have RW : Hid (Row w va l.length (flatP l)) := h
  have RM : Hid (Row w vm ms.length (flatM ms)) := hm
  clear h hm
  cases hM : mapOkB l
  · obtain ⟨i0, hi, hz0, hz1, hz2⟩ := info_parts Tryz.info52
    have HR : Hid _ := room_row (n := l.length) (bytes := 16) (by omega) (by decide)
    have E : Hid (allL l ms = l) := allL_of_not hM ms
    go_enter Tryz.func25, Tryz.ntmps25
    go_wp2_with fail
    refine (implMapOk_any va l _ RW.out).mono ?_
    rw [hM]
    rintro e w1 ⟨rfl, b1⟩
    have B1s := b1.size
    have RR : Hid (Row w1 va l.length (flatP l)) := RW.out.below b1
    clear hM
    go_wp2_with (at_builtin; refine app_row w1 rfl _ _ 24 rfl w.heap.size 52 i0 _ 2 16 Tryz.underlying24 hi hz0 hz1 hz2 rfl (by decide) (.slice none 0 0) 0 [] rfl (World.ownsRow_nil _ _ _ _) va l.length (flatP l) rfl RR.out (flatP_length _) (flatP_one _) HR.out.1 HR.out.2 B1s ?_)
    intro v' w2 ho2 _ hb2
    have B2 : Below w.heap.size w w2 := b1.trans hb2
    clear hb2 b1
    go_wp2
    go_ret
    rw [E.out]
    exact ⟨_, rfl, by simpa using ho2, B2⟩
  · have hmp : MapP l := (mapOkB_iff l).1 hM
    have E : Hid (allL l ms = (okMs ms).foldl doP l) := allL_ok hmp ms
    have HMP : Hid (MapP l) := hmp
    have hml := mapP_length hmp
    have hol := okMs_length ms
    have HOK : Hid (∀ m ∈ okMs ms, okM m = true) := fun m hm => (List.mem_filter.1 hm).2
    clear hmp
    go_enter Tryz.func25, Tryz.ntmps25
    go_wp2_with fail
    refine (implMapOk_any va l _ RW.out).mono ?_
    rw [hM]
    rintro e w1 ⟨rfl, b1⟩
    have B1 : Hid (Below w.heap.size w w1) := b1
    clear hM b1
    go_wp2_with fail
    refine (sortedOf_any va l _ (RW.out.below B1.out) HMP.out.1 (by omega)).mono ?_
    rintro e w2 ⟨kv, vv, rfl, o1, o2, hd, b2⟩
    obtain ⟨ka, kc, hkv⟩ := owns_val o1
    obtain ⟨vva, vc, hvv⟩ := owns_val o2
    subst hkv
    subst hvv
    have B2 : Below w.heap.size w w2 := Below.and B1.out b2
    have b3 : Below w2.heap.size w2 (w2.alloc (.cells #[.slice ka l.length kc, .slice vva l.length vc] 66)) := (Below.refl _ _).alloc (Nat.le_refl _) _
    have SRT : SrtM (w2.alloc (.cells #[.slice ka l.length kc, .slice vva l.length vc] 66)) w2.heap.size (fun g => g = w2.heap.size ∨ (Value.slice ka l.length kc).ownBlock = some g ∨ (Value.slice vva l.length vc).ownBlock = some g) l :=
      ⟨_, _, heap_alloc_new w2 _, by rw [keys_length]; exact owns_below (owns_mono o1 (Nat.zero_le _)) b3, by rw [vals_length]; exact owns_below (owns_mono o2 (Nat.zero_le _)) b3, hd, Or.inl rfl, fun g hg => Or.inr (Or.inl hg), fun g hg => Or.inr (Or.inr hg)⟩
    have hF0 : ∀ g, (g = w2.heap.size ∨ (Value.slice ka l.length kc).ownBlock = some g ∨ (Value.slice vva l.length vc).ownBlock = some g) → w.heap.size ≤ g ∧ g < (w2.alloc (.cells #[.slice ka l.length kc, .slice vva l.length vc] 66)).heap.size := by
      have hs := B2.size
      have hs1 := B1.out.size
      rintro g (rfl | hg | hg)
      · exact ⟨by omega, by simp⟩
      · have := o1.lt g hg; exact ⟨by omega, by simp; omega⟩
      · have := o2.lt g hg; exact ⟨by omega, by simp; omega⟩
    have INFO : Hid _ := And.intro SRT (And.intro hF0 (And.intro b3 B2))
    clear SRT hF0 b3 B2 b2 hd o1 o2 B1
    go_wp2_with fail
    obtain ⟨SRT, hF0, b3, B2⟩ := INFO.out
    refine (changesOf_any vm ms _ ((RM.out.below B2).below b3) (by omega)).mono ?_
    rintro e w4 ⟨cs, rfl, oc, b4⟩
    generalize hms : okMs ms = cm at *
    obtain ⟨ca, cc, hcs⟩ := owns_val oc
    subst hcs
    have SRT4 := SRT.below b4
    have B4 : Below w.heap.size w w4 := Below.and (Below.and B2 b3) b4
    have hcl : ∀ g, (Value.slice ca cm.length cc).ownBlock = some g → (w2.alloc (.cells #[.slice ka l.length kc, .slice vva l.length vc] 66)).heap.size ≤ g := fun g hg => (oc.lt g hg).1
    have hB2 : w2.heap.size < w4.heap.size := SRT4.lt
    have hcm : cc ≤ maxLen := by
      obtain ⟨_, ⟨e, _⟩ | ⟨g, cap', cur, e, _, _, _, hc, _⟩⟩ := oc
      · simp at e; rw [e.2.2]; exact Nat.zero_le _
      · simp at e; rw [e.2]; exact hc
    have START : Hid _ := And.intro SRT4 (And.intro (fun g (hg : g = w2.heap.size ∨ (Value.slice ka l.length kc).ownBlock = some g ∨ (Value.slice vva l.length vc).ownBlock = some g) => (hF0 g hg).1) (And.intro (fun g (hg : g = w2.heap.size ∨ (Value.slice ka l.length kc).ownBlock = some g ∨ (Value.slice vva l.length vc).ownBlock = some g) (hh : (Value.slice ca cm.length cc).ownBlock = some g) => (show False by have h1 := (hF0 g hg).2; have h2 := hcl g hh; omega)) (And.intro (owns_mono (base' := 0) oc (Nat.zero_le _)) B4)))
    unfold maxLen at hcm
    clear SRT SRT4 hF0 b3 b4 B2 B4 oc hcl INFO RW RM hms
    go_wp2
    go_loopw [18] (fun i wr => ∃ (k : Nat) (F : Nat → Prop), k ≤ cm.length ∧ i = .int .i64 k ∧ SrtM wr w2.heap.size F ((cm.take k).foldl doP l) ∧ (∀ g, F g → w.heap.size ≤ g) ∧ (∀ g, F g → (Value.slice ca cm.length cc).ownBlock = some g → False) ∧ wr.ownsRow 0 71 1 (.slice ca cm.length cc) cm.length (cm.map encC) ∧ Below w.heap.size w wr)
      (fun i _ => cm.length - (intOf i).toNat)
    case atStart => exact ⟨0, _, Nat.zero_le _, rfl, START.out.1, START.out.2.1, START.out.2.2.1, START.out.2.2.2.1, START.out.2.2.2.2⟩
    case round =>
      obtain ⟨k, F, hkl, rfl, hsrt, hF, hFc, hoc, hb⟩ := hrel
      clear START
      by_cases hlt : k < cm.length
      · have hex : ∃ g, ca = some ⟨g, 0, none⟩ := by
          obtain ⟨_, ⟨e, e2⟩ | ⟨g, cap', cur, e, _⟩⟩ := hoc
          · omega
          · simp at e; exact ⟨g, e.1⟩
        obtain ⟨g, rfl⟩ := hex
        have hcell : wr.cell? ⟨g, k, none⟩ = some (encC (mO cm k, mK cm k, mV cm k)) := by
          rw [hoc.cellAt k (by omega), List.getElem?_map, List.getElem?_eq_getElem hlt, ml_at cm k hlt]; rfl
        obtain ⟨tt, xx, hx⟩ := encC_iface (mO cm k, mK cm k, mV cm k)
        rw [hx] at hcell
        have hmk : msgOkB (mO cm k) (mK cm k) (mV cm k) = true := by
          have := HOK.out cm[k] (List.getElem_mem hlt)
          rw [ml_at cm k hlt] at this
          exact this
        have FSUC : Hid _ := foldP_succ l cm k hlt
        have hfl := foldP_length l (cm.take k)
        have htl : (cm.take k).length ≤ k := List.length_take_le _ _
        have MP : Hid _ := foldP_mapP HMP.out (cm.take k) (fun m hm => HOK.out m (List.mem_of_mem_take hm))
        generalize (cm.take k).foldl doP l = A at *
        have hA := mapP_length MP.out
        have TU := turn_any w2.heap.size F A (mO cm k) (mK cm k) (mV cm k) wr hsrt MP.out hmk (by omega)
        rw [hx] at TU
        have TU' : Hid _ := (fun (_ : Nat) => TU)
        have INFO : Hid _ := And.intro hF (And.intro hFc (And.intro hoc hb))
        clear TU hF hFc hoc hb hsrt hmk hx
        go_wp2_with fail
        refine (TU'.out 0).mono ?_
        rintro e w5 ⟨rfl, F', h1, h2, h3⟩
        obtain ⟨hF, hFc, hoc, hb⟩ := INFO.out
        have hwlt : ∀ g', (Value.slice (some ⟨g, 0, none⟩) cm.length cc).ownBlock = some g' → g' < wr.heap.size := fun g' hg' => (owns_lt hoc hg').1
        have hbs := hb.size
        have FIN : Hid _ := And.intro h1 (And.intro (show ∀ g', F' g' → w.heap.size ≤ g' from fun g' hg' => (h3 g' hg').elim (hF g') (fun hh => by omega)) (And.intro (show ∀ g', F' g' → (Value.slice (some ⟨g, 0, none⟩) cm.length cc).ownBlock = some g' → False from fun g' hg' hh => (h3 g' hg').elim (fun hh2 => hFc g' hh2 hh) (fun hh2 => by have := hwlt g' hh; omega))
          (And.intro (owns_chg hoc h2 (fun g' hg' hh => hFc g' hh hg')) (hb.trans (h2.below (fun g' _ hg' => hF g' hg') hbs)))))
        clear h1 h2 h3 hF hFc hoc hb hwlt hbs INFO TU'
        go_wp2
        go_roundw
        case rel => exact ⟨k + 1, F', by omega, by go_num, by rw [FSUC.out]; exact FIN.out.1, FIN.out.2.1, FIN.out.2.2.1, FIN.out.2.2.2.1, FIN.out.2.2.2.2⟩
        case measure => simp [intOf]; omega
      · have hkk : k = cm.length := by omega
        subst hkk
        rw [List.take_of_length_le (Nat.le_refl _)] at hsrt
        have hfl := foldP_length l cm
        rw [← E.out] at hsrt hfl
        obtain ⟨kv', vv', h1, h2, h3, h4, h5, h6, h7⟩ := hsrt
        rw [keys_length] at h2
        rw [vals_length] at h3
        have R1 := Row.of_owns h2
        have R2 := Row.of_owns h3
        obtain ⟨ka', kc', hkv'⟩ := owns_val h2
        obtain ⟨va', vc', hvv'⟩ := owns_val h3
        have c0 : wr.cell? ⟨w2.heap.size, 0, none⟩ = some kv' := by rw [cell_of_cells h1]; rfl
        have c1 : wr.cell? ⟨w2.heap.size, 1, none⟩ = some vv' := by rw [cell_of_cells h1]; rfl
        rw [hkv'] at c0 R1
        rw [hvv'] at c1 R2
        have PO : Hid _ := (fun (_ : Nat) => pairsOf_any _ _ (allL l ms) wr R1 R2 (by omega))
        have hbh : Hid _ := hb
        clear h1 h2 h3 h4 h5 h6 h7 hkv' hvv' hF hFc hoc hb R1 R2
        go_wp2_with fail
        refine (PO.out 0).mono ?_
        rintro e w6 ⟨v6, rfl, o6, b6⟩
        go_wp2
        go_ret
        exact ⟨_, rfl, owns_mono o6 hbh.out.size, Below.and hbh.out b6⟩

end Go.Proofs.YtmpiijphpnjlnaaGreat

namespace Go.Proofs.YtmpiijphpnjlnaaGreat
open Go.RowKit

theorem allL_succ (l : PL) (ms : ML) (k : Nat) (h : k < ms.length) : allL l (ms.take (k + 1)) = doL (allL l (ms.take k)) (mO ms k, mK ms k, mV ms k) := by
  rw [take_succM ms k h, allL, List.foldl_append]; rfl

set_option maxRecDepth 100000 in
set_option maxHeartbeats 2000000 in
theorem specMapAll_any (va vm : Value) (l : PL) (ms : ML) (w : World) (h : Row w va l.length (flatP l)) (hm : Row w vm ms.length (flatM ms)) (hn : l.length + ms.length ≤ 2097152) :
    Calls Tryz.prog 28 #[va, vm] w fun e w' => ∃ v', e = .returned v' ∧ w'.ownsRow w.heap.size 52 2 v' (allL l ms).length (flatP (allL l ms)) ∧ Below w.heap.size w w' := by
  obtain ⟨i0, hi, hz0, hz1, hz2⟩ := info_parts Tryz.info52
  have RW : Hid (Row w va l.length (flatP l)) := h
  have HR : Hid _ := room_row (n := l.length) (bytes := 16) (by omega) (by decide)
  have Hb : Hid (w.heap.size ≤ (w.alloc (.cells #[] 52)).heap.size) := by show _ ≤ _; simp
  obtain ⟨a, b, off, cap, rfl, hcap, hmax, ha, ho, hk, hv⟩ := hm.msgs
  unfold maxLen at hmax
  clear h
  go_enter Tryz.func28, Tryz.ntmps28
  go_wp2_with (at_builtin; refine app_row (w.alloc (.cells #[] 52)) rfl _ _ 24 rfl w.heap.size 52 i0 _ 2 16 Tryz.underlying24 hi hz0 hz1 hz2 rfl (by decide) (.slice (some ⟨w.heap.size, 0, none⟩) 0 0) 0 [] rfl (empty_own w w.heap.size 52 2 (Nat.le_refl _)) va l.length (flatP l) rfl (RW.out.below ((Below.refl _ _).alloc (Nat.le_refl _) _)) (flatP_length _) (flatP_one _) HR.out.1 HR.out.2 Hb.out ?_)
  intro v0 w0 ho0 _ hb0
  have B0 : Below w.heap.size w w0 := ((Below.refl _ _).alloc (Nat.le_refl _) _).trans hb0
  clear hb0
  go_wp2
  go_loopw [5, 6] (fun out i wr => ∃ k : Nat, k ≤ ms.length ∧ i = .int .i64 k ∧ wr.ownsRow w.heap.size 52 2 out (allL l (ms.take k)).length (flatP (allL l (ms.take k))) ∧ Below w.heap.size w wr)
    (fun _ i _ => ms.length - (intOf i).toNat)
  case atStart => exact ⟨0, Nat.zero_le _, rfl, ho0, B0⟩
  case round =>
    obtain ⟨k, hkl, rfl, hown, hb⟩ := hrel
    by_cases hlt : k < ms.length
    · have hal := ha (by omega)
      subst hal
      have d0 := (hb.cell (by exact cell_lt (ho k hlt))).trans (ho k hlt)
      have d1 := (hb.cell (by exact cell_lt (hk k hlt))).trans (hk k hlt)
      have d2 := (hb.cell (by exact cell_lt (hv k hlt))).trans (hv k hlt)
      have DS : Hid _ := allL_succ l ms k hlt
      have hal := allL_length l (ms.take k)
      have htl : (ms.take k).length ≤ k := List.length_take_le _ _
      generalize hA : allL l (ms.take k) = A at *
      clear hA ho hk hv ho0 B0
      have OW : Hid _ := hown
      have RA : Hid (Row wr u5 A.length (flatP A)) := Row.of_owns hown
      clear hown
      go_wp2_with fail
      refine (specMapDo_any u5 A _ _ _ wr RA.out (by omega)).mono ?_
      rintro e w1 ⟨v1, rfl, o1, b1⟩
      go_wp2
      go_roundw
      case rel => exact ⟨k + 1, by omega, by go_num, by rw [DS.out]; exact owns_mono o1 hb.size, hb.trans (b1.mono hb.size)⟩
      case measure => simp [intOf]; omega
    · go_wp2
      go_ret
      have hkk : k = ms.length := by omega
      subst hkk
      rw [List.take_of_length_le (Nat.le_refl _)] at hown
      exact ⟨_, rfl, hown, hb⟩

end Go.Proofs.YtmpiijphpnjlnaaGreat
