/-
  The text that the laws mark a string with.
  Lists of strings: copied, held against each other, marked.
  Lists of strings: the marks looked for.
  Lists of writes (a place, a text, a super): their cells, and the laws' functions that copy and compare one.
  Lists of writes: their size, copied, held against each other.
  Lists of writes: copied, held against each other, marked.
  Lists of writes: marked.
  A disk: its pages (strings) and its supers, as two rows behind one struct; the laws' functions on it.
-/
import Derived.Test.YtckphbmlmjlipaaDoorPart6
import Derived.Laws.BytesArg
import Derived.Laws.Concat
import Derived.Lib.SlicesS
import Derived.Deep.QuietTactic
import Derived.BigQuiet
import Derived.Deep.RegionWith
namespace Go.Proofs.YtckphbmlmjlipaaDoor
open Go.RowKit

def dgS (f : Nat) (k : Nat) (out : ByteArray) : ByteArray := match f with
  | 0 => out
  | f + 1 => if k = 0 then out else dgS f (k / 10) (strOfNums [48 + (k : Int) % 10] ++ out)

theorem conv_one (W : World) (x : Int) : (convert 71 9 (.slice (some ⟨W.heap.size, 0, none⟩) 1 1)).run Tryd.prog (W.alloc (.cells #[.int .u8 x] 5)) = .ok (.string (strOfNums [x])) (W.alloc (.cells #[.int .u8 x] 5)) :=
  run_convert_bytes_arg _ 71 5 Tryd.underlying71 Tryd.underlying5 W.heap.size 0 1 1 [x] rfl (fun i hi => by
    have : i = 0 := by omega
    subst this
    rw [cell_of_cells (heap_alloc_new W _)]; rfl) 9 Tryd.underlying9

set_option maxRecDepth 100000 in
set_option maxHeartbeats 400000 in
theorem markText_any (k : Int) (hk : 0 < k) (hk2 : k ≤ 8000000) (w : World) :
    Calls Tryd.prog 51 #[.int .i64 k] w fun e w' => e = .returned (.string (⟨#[109]⟩ ++ dgS k.toNat k.toNat ⟨#[]⟩)) ∧ Below w.heap.size w w' := by
  go_enter Tryd.func51, Tryd.ntmps51
  go_wp2
  go_loopw [0, 3] (fun x o wr => ∃ (f n : Nat) (out : ByteArray), x = .int .i64 n ∧ o = .string out ∧ n ≤ f ∧ out.size + n ≤ 8000000 ∧ dgS f n out = dgS k.toNat k.toNat ⟨#[]⟩ ∧ Below w.heap.size w wr) (fun x _ _ => (intOf x).toNat)
  case atStart => exact ⟨k.toNat, k.toNat, ⟨#[]⟩, by rw [show ((k.toNat : Nat) : Int) = k by omega], rfl, Nat.le_refl _, by show 0 + k.toNat ≤ 8000000; omega, rfl, Below.refl _ _⟩
  case round =>
    obtain ⟨f, n, out, rfl, rfl, hf, hn, hd, hb⟩ := hrel
    have HD : Hid _ := hd
    have HB : Hid _ := hb
    clear hd hb
    by_cases h0 : n = 0
    · subst h0
      have hadd : ∀ W, (Op.stringOp .add ⟨#[109]⟩ out).run Tryd.prog W = .ok (.string (⟨#[109]⟩ ++ out)) W := fun W => run_string_add W _ _ (by decide) (by omega)
      go_wp2
      go_ret
      refine ⟨?_, HB.out⟩
      have := HD.out
      have e : dgS f 0 out = out := by cases f <;> simp [dgS]
      rw [e] at this
      rw [← this]
      rfl
    · obtain ⟨f', rfl⟩ : ∃ f', f = f' + 1 := ⟨f - 1, by omega⟩
      have HN : Hid (dgS f' (n / 10) (strOfNums [48 + (n : Int) % 10] ++ out) = dgS k.toNat k.toNat ⟨#[]⟩) := by
        have := HD.out
        simp only [dgS] at this
        rw [if_neg h0] at this
        exact this
      clear HD
      have hs1 : (strOfNums [48 + (n : Int) % 10]).size = 1 := rfl
      have HS : Hid ((strOfNums [48 + (n : Int) % 10] ++ out).size = 1 + out.size) := by rw [ByteArray.size_append, hs1]; exact rfl
      have hd : 48 + (n : Int) % 10 < 256 := by omega
      have hd0 : 0 ≤ 48 + (n : Int) % 10 := by omega
      have hcv := fun W => conv_one W (48 + (n : Int) % 10)
      have hadd : ∀ W, (Op.stringOp .add (strOfNums [48 + (n : Int) % 10]) out).run Tryd.prog W = .ok (.string (strOfNums [48 + (n : Int) % 10] ++ out)) W := fun W => run_string_add W _ _ (by rw [hs1]; decide) (by omega)
      clear hs1
      go_wp2
      go_roundw
      case rel => exact ⟨f', n / 10, _, by go_num, rfl, by omega, by rw [HS.out]; omega, HN.out, HB.out.alloc HB.out.size _⟩
      case measure => simp [intOf]; omega

def markT (k : Int) : ByteArray := ⟨#[109]⟩ ++ dgS k.toNat k.toNat ⟨#[]⟩
theorem mark_text (k : Int) (hk : 0 < k) (hk2 : k ≤ 8000000) (w : World) : Calls Tryd.prog 51 #[.int .i64 k] w fun e w' => e = .returned (.string (markT k)) ∧ Below w.heap.size w w' := markText_any k hk hk2 w

end Go.Proofs.YtckphbmlmjlipaaDoor

namespace Go.Proofs.YtckphbmlmjlipaaDoor
open Go.RowKit

theorem Tryd.info9 : (Tryd.prog.info? 9).map (fun i => (i.zero, i.size, i.bytes)) = some (some (.string ⟨#[]⟩), 1, 16) := by kernel_rfl

def filledS (l : List ByteArray) (k : Nat) : List Value := flatS (l.take k) ++ List.replicate (l.length - k) (.string ⟨#[]⟩)
theorem filledS_full (l : List ByteArray) : filledS l l.length = flatS l := by simp [filledS]
theorem filledS_length (l : List ByteArray) (k : Nat) (hk : k ≤ l.length) : (filledS l k).length = l.length := by simp [filledS, flatS_length]; omega
theorem filledS_zero (l : List ByteArray) (k : Nat) (hk : k < l.length) : (filledS l k)[k]? = some (.string ⟨#[]⟩) := by
  have hl : (flatS (l.take k)).length = k := by rw [flatS_length]; simp; omega
  rw [filledS, List.getElem?_append_right (by omega), List.getElem?_replicate_of_lt (by omega)]
theorem filledS_step (l : List ByteArray) (k : Nat) (hk : k < l.length) : (filledS l k).set k (.string (sOf l k)) = filledS l (k + 1) := by
  have hl : (flatS (l.take k)).length = k := by rw [flatS_length]; simp; omega
  obtain ⟨m, hm⟩ : ∃ m, l.length - k = m + 1 := ⟨l.length - k - 1, by omega⟩
  have hm2 : l.length - (k + 1) = m := by omega
  rw [filledS, filledS, takeS_succ l k hk, flatS_append, hm, hm2, List.replicate_succ]
  rw [List.set_append_right _ _ (by omega), hl, Nat.sub_self, List.set_cons_zero]
  simp [flatS]

set_option maxHeartbeats 1000000 in
theorem toStringS_any (v : Value) (l : List ByteArray) (w : World) (hr : Row w v l.length (flatS l)) (hn : l.length ≤ 1048576) :
    Calls Tryd.prog 20 #[v] w fun e w' => ∃ v', e = .returned v' ∧ w'.ownsRow w.heap.size 9 1 v' l.length (flatS l) ∧ Below w.heap.size w w' := by
  obtain ⟨a, b, off, cap, rfl, hcap, hmax, ha, hk⟩ := hr.strs
  obtain ⟨i0, hi, hz0, hz1, hz2⟩ := info_parts Tryd.info9
  unfold maxLen at hmax
  go_enter Tryd.func20, Tryd.ntmps20
  go_wp2_with (at_make; refine wpList_make_full _ rfl _ _ 22 rfl w.heap.size 9 i0 _ 1 Tryd.underlying22 hi hz0 hz1 .i64 .i64 _ _ l.length rfl rfl rfl rfl ?c1 ?c2 ?c3 ?_)
  case c1 => rw [hz2]; omega
  case c2 => unfold maxLen; omega
  case c3 => exact Nat.le_refl _
  intro w0 hown0 hgrow0
  have hb0 : Below w.heap.size w w0 := (Below.refl _ _).grown hgrow0 (Nat.le_refl _) (fun k hk => by cases hk)
  clear hgrow0
  go_wp2
  go_loopw [4] (fun i wr => ∃ k : Nat, k ≤ l.length ∧ i = .int .i64 k ∧ wr.ownsRow w.heap.size 9 1 (.slice (some ⟨w.heap.size, 0, none⟩) l.length l.length) l.length (filledS l k) ∧ Below w.heap.size w wr)
    (fun i _ => l.length - (intOf i).toNat)
  case atStart => exact ⟨0, Nat.zero_le _, rfl, by rw [madeCells_all _ (.string ⟨#[]⟩) (by decide) (fun i hi => by match i, hi with | 0, _ => rfl)] at hown0; simpa [filledS, flatS] using hown0, hb0⟩
  case round =>
    obtain ⟨k, hkl, rfl, hown, hb⟩ := hrel
    clear hown0 hb0
    by_cases hlt : k < l.length
    · have hal := ha (by omega)
      subst hal
      have c0 := hk k hlt
      have d0 : wr.cell? ⟨b, off + k, none⟩ = some (.string (sOf l k)) := (hb.cell (by exact cell_lt c0)).trans c0
      have e0 := (hown.cellAt k (by omega)).trans (filledS_zero l k hlt)
      have f0 := hown.frozenAt k
      have st := (hown.stored k (.string (sOf l k))).1
      rw [filledS_step l k hlt] at st
      have ST : Hid ((wr.setCell ⟨w.heap.size, k, none⟩ (.string (sOf l k))).ownsRow w.heap.size 9 1 (.slice (some ⟨w.heap.size, 0, none⟩) l.length l.length) l.length (filledS l (k + 1))) := st
      have HB : Hid _ := hb
      clear hk c0 ha st hown hb
      go_wp2
      go_roundw
      case rel => exact ⟨k + 1, by omega, by go_num, ST.out, HB.out.setCell (Nat.le_refl _) _⟩
      case measure => simp [intOf]; omega
    · go_wp2
      go_ret
      have hkk : k = l.length := by omega
      subst hkk
      rw [filledS_full] at hown
      exact ⟨_, rfl, hown, hb⟩

set_option maxHeartbeats 1000000 in
theorem eqStringS_any (v1 v2 : Value) (l1 l2 : List ByteArray) (w : World) (h1 : Row w v1 l1.length (flatS l1)) (h2 : Row w v2 l2.length (flatS l2)) :
    Calls Tryd.prog 30 #[v1, v2] w fun e w' => e = .returned (.bool (decide (l1 = l2))) ∧ Below w.heap.size w w' := by
  obtain ⟨a, b, off, cap, rfl, hcap, hmax, ha, hk⟩ := h1.strs
  obtain ⟨a2, b2, off2, cap2, rfl, hcap2, hmax2, ha2, hk2⟩ := h2.strs
  unfold maxLen at hmax hmax2
  by_cases hl : l1.length = l2.length
  · have hne : ((l1.length : Int) != (l2.length : Int)) = false := by rw [bne_eq_false_iff_eq]; omega
    have HL : Hid (l1.length = l2.length) := hl
    have hl2 : l1.length ≤ l2.length := by omega
    clear hl
    go_enter Tryd.func30, Tryd.ntmps30
    go_wp2
    go_loopw [5] (fun i wr => ∃ k : Nat, k ≤ l1.length ∧ i = .int .i64 k ∧ Hid (∀ i, i < k → sOf l1 i = sOf l2 i) ∧ Below w.heap.size w wr)
      (fun i _ => l1.length - (intOf i).toNat)
    case atStart => exact ⟨0, Nat.zero_le _, rfl, fun i hi => absurd hi (Nat.not_lt_zero _), Below.refl _ _⟩
    case round =>
      obtain ⟨k, hkl, rfl, ALL, hb⟩ := hrel
      by_cases hlt : k < l1.length
      · have hal := ha (by omega)
        subst hal
        have hal2 := ha2 (by omega)
        subst hal2
        have hlt2 : k < l2.length := by omega
        have d0 := (hb.cell (by exact cell_lt (hk k hlt))).trans (hk k hlt)
        have d1 := (hb.cell (by exact cell_lt (hk2 k hlt2))).trans (hk2 k hlt2)
        clear hk ha hk2 ha2
        by_cases hq : sOf l1 k = sOf l2 k
        · have hq' : ((sOf l1 k).toList == (sOf l2 k).toList) = true := (Lib.bytes_beq_iff _ _).2 hq
          have EQ : Hid (sOf l1 k = sOf l2 k) := hq
          clear hq
          go_wp2_with fail
          go_quiet (fail)
          go_wp2
          go_roundw
          case rel => exact ⟨k + 1, by omega, by go_num, fun i hi => if h : i < k then ALL.out i h else by rw [show i = k by omega]; exact EQ.out, below_drewN hb _⟩
          case measure => simp [intOf]; omega
        · have hq' : ((sOf l1 k).toList == (sOf l2 k).toList) = false := (Lib.bytes_beq_false_iff _ _).2 hq
          have NE : Hid (decide (l1 = l2) = false) := decide_eq_false (fun e => hq (by rw [e]))
          clear hq
          go_wp2_with fail
          go_quiet (fail)
          go_wp2
          go_ret
          exact ⟨ret_bool NE.out.symm, below_drewN hb _⟩
      · go_wp2
        go_ret
        refine ⟨ret_bool ?_, hb⟩
        symm
        rw [decide_eq_true_iff]
        exact extS HL.out (fun i hi => ALL.out i (by omega))
  · have hne : ((l1.length : Int) != (l2.length : Int)) = true := by rw [bne_iff_ne]; omega
    go_enter Tryd.func30, Tryd.ntmps30
    go_wp2
    go_ret
    refine ⟨ret_bool ?_, Below.refl _ _⟩
    symm
    rw [decide_eq_false_iff_not]
    intro h; exact hl (by rw [h])

def marksS (k : Int) (n : Nat) : List ByteArray := (List.range n).map fun (i : Nat) => markT (k + i)
theorem marksS_length (k : Int) (n : Nat) : (marksS k n).length = n := by simp [marksS]
theorem marksS_succ (k : Int) (n : Nat) : marksS k (n + 1) = marksS k n ++ [markT (k + n)] := by simp [marksS, List.range_succ]
theorem marksS_at (k : Int) (n i : Nat) (h : i < n) : sOf (marksS k n) i = markT (k + i) := by simp [marksS, sOf, List.getD, h]
def midS (k : Int) (l : List ByteArray) (i : Nat) : List ByteArray := marksS k i ++ l.drop i
theorem midS_length (k : Int) (l : List ByteArray) (i : Nat) (h : i ≤ l.length) : (midS k l i).length = l.length := by simp [midS, marksS_length]; omega
theorem midS_zero (k : Int) (l : List ByteArray) : midS k l 0 = l := by simp [midS, marksS]
theorem midS_full (k : Int) (l : List ByteArray) : midS k l l.length = marksS k l.length := by simp [midS]
theorem midS_step (k : Int) (l : List ByteArray) (i : Nat) (h : i < l.length) : (midS k l i).set i (markT (k + i)) = midS k l (i + 1) := by
  rw [midS, midS, marksS_succ, List.drop_eq_getElem_cons h, List.set_append_right _ _ (by rw [marksS_length]; omega), marksS_length, Nat.sub_self, List.set_cons_zero]
  simp
theorem flatS_set (l : List ByteArray) (s : ByteArray) (i : Nat) : (flatS l).set i (.string s) = flatS (l.set i s) := by simp [flatS, List.map_set]

set_option maxHeartbeats 1000000 in
theorem markStringS_any (v : Value) (l : List ByteArray) (k : Int) (w : World) (h : w.ownsRow 0 9 1 v l.length (flatS l)) (hn : l.length ≤ 2097152) (hk0 : 0 < k) (hk1 : k ≤ 4194304) :
    Calls Tryd.prog 32 #[v, .int .i64 k] w fun e w' => e = .returned (.int .i64 (k + l.length)) ∧ w'.ownsRow 0 9 1 v l.length (flatS (marksS k l.length)) ∧ Chg (fun g => v.ownBlock = some g) w w' := by
  obtain ⟨a, cap, hv⟩ := owns_val h
  have hcap : cap ≤ maxLen := by
    obtain ⟨_, ⟨e, _⟩ | ⟨g, cap', cur, e, _, _, _, hc, _⟩⟩ := h
    · rw [hv] at e; simp at e; rw [e.2.2]; exact Nat.zero_le _
    · rw [hv] at e; simp at e; rw [e.2]; exact hc
  unfold maxLen at hcap
  have OW : Hid (w.ownsRow 0 9 1 v l.length (flatS l)) := h
  clear h
  rw [hv] at OW ⊢
  clear hv
  go_enter Tryd.func32, Tryd.ntmps32
  go_wp2
  go_loopw [1, 5] (fun kk i wr => ∃ j : Nat, j ≤ l.length ∧ i = .int .i64 j ∧ kk = .int .i64 (k + j) ∧ wr.ownsRow 0 9 1 (.slice a l.length cap) l.length (flatS (midS k l j)) ∧ Chg (fun g => (Value.slice a l.length cap).ownBlock = some g) w wr)
    (fun _ i _ => l.length - (intOf i).toNat)
  case atStart => exact ⟨0, Nat.zero_le _, rfl, by simp, by rw [midS_zero]; exact OW.out, Chg.refl _ _⟩
  case round =>
    obtain ⟨j, hj, rfl, rfl, hown, hch⟩ := hrel
    by_cases hlt : j < l.length
    · have hex : ∃ g, a = some ⟨g, 0, none⟩ := by
        obtain ⟨_, ⟨e, e2⟩ | ⟨g, cap', cur, e, _⟩⟩ := hown
        · omega
        · simp at e; exact ⟨g, e.1⟩
      obtain ⟨g, rfl⟩ := hex
      have HO : Hid _ := And.intro hown hch
      clear hown hch OW
      have hb0 : 0 ≤ k + (j : Int) := by omega
      have hb1 : k + (j : Int) ≤ 8000000 := by omega
      go_wp2_with fail
      refine (mark_text (k + j) (by omega) hb1 _).mono ?_
      rintro e w1 ⟨rfl, b1⟩
      have hown := owns_below HO.out.1 b1
      have hch := HO.out.2.trans (Chg.of_below (F := fun g' => (Value.slice (some ⟨g, 0, none⟩) l.length cap).ownBlock = some g') b1) (fun _ _ e => e)
      have hml : (midS k l j).length = l.length := midS_length k l j hj
      have hat := flatS_at (midS k l j) j (by omega)
      have e0 := (hown.cellAt j (by omega)).trans hat
      have f0 := hown.frozenAt j
      have st := (hown.stored j (.string (markT (k + j)))).1
      rw [flatS_set, midS_step k l j hlt] at st
      have hch2 : Chg (fun g' => (Value.slice (some ⟨g, 0, none⟩) l.length cap).ownBlock = some g') w (w1.setCell ⟨g, j, none⟩ (.string (markT (k + j)))) := hch.setAt g _ rfl _
      generalize sOf (midS k l j) j = x0 at *
      have ST : Hid _ := And.intro st hch2
      clear st hch2 hown hch hml hat HO
      go_wp2
      go_roundw
      case rel => exact ⟨j + 1, by omega, by go_num, by go_num, ST.out.1, ST.out.2⟩
      case measure => simp [intOf]; omega
    · have hjl : j = l.length := by omega
      subst hjl
      go_wp2
      go_ret
      rw [midS_full] at hown
      exact ⟨rfl, hown, hch⟩

end Go.Proofs.YtckphbmlmjlipaaDoor

namespace Go.Proofs.YtckphbmlmjlipaaDoor
open Go.RowKit

end Go.Proofs.YtckphbmlmjlipaaDoor

namespace Go.Proofs.YtckphbmlmjlipaaDoor
open Go.RowKit

/-- a write: At, Text, and Ver, Root of Super -/
abbrev Wr := Int × ByteArray × Int × Int
def wA (l : List Wr) (i : Nat) : Int := (l.getD i (0, ⟨#[]⟩, 0, 0)).1
def wT (l : List Wr) (i : Nat) : ByteArray := (l.getD i (0, ⟨#[]⟩, 0, 0)).2.1
def wV (l : List Wr) (i : Nat) : Int := (l.getD i (0, ⟨#[]⟩, 0, 0)).2.2.1
def wR (l : List Wr) (i : Nat) : Int := (l.getD i (0, ⟨#[]⟩, 0, 0)).2.2.2
def flatW (l : List Wr) : List Value := l.flatMap fun p => [.int .i64 p.1, .string p.2.1, .int .i64 p.2.2.1, .int .i64 p.2.2.2]
theorem flatW_cons (p : Wr) (l : List Wr) : flatW (p :: l) = .int .i64 p.1 :: .string p.2.1 :: .int .i64 p.2.2.1 :: .int .i64 p.2.2.2 :: flatW l := rfl
theorem flatW_length (l : List Wr) : (flatW l).length = l.length * 4 := by
  induction l with
  | nil => rfl
  | cons a l ih => rw [flatW_cons]; simp only [List.length_cons, ih]; omega
theorem flatW_append (l m : List Wr) : flatW (l ++ m) = flatW l ++ flatW m := by simp [flatW, List.flatMap_append]
theorem flatW_at (l : List Wr) : ∀ i, i < l.length → (flatW l)[i * 4]? = some (.int .i64 (wA l i)) ∧ (flatW l)[i * 4 + 1]? = some (.string (wT l i)) ∧ (flatW l)[i * 4 + 2]? = some (.int .i64 (wV l i)) ∧ (flatW l)[i * 4 + 3]? = some (.int .i64 (wR l i)) := by
  induction l with
  | nil => intro i h; simp at h
  | cons a l ih =>
    intro i h
    cases i with
    | zero => simp [flatW, wA, wT, wV, wR]
    | succ i =>
      have := ih i (by simpa using h)
      rw [flatW_cons, show (i + 1) * 4 = i * 4 + 1 + 1 + 1 + 1 by omega, show i * 4 + 1 + 1 + 1 + 1 + 1 = (i * 4 + 1) + 1 + 1 + 1 + 1 by omega, show i * 4 + 1 + 1 + 1 + 1 + 2 = (i * 4 + 2) + 1 + 1 + 1 + 1 by omega, show i * 4 + 1 + 1 + 1 + 1 + 3 = (i * 4 + 3) + 1 + 1 + 1 + 1 by omega]
      simpa [wA, wT, wV, wR] using this
theorem flatW_one (l : List Wr) : ∀ y ∈ flatW l, y.oneCell' = true := by
  induction l with
  | nil => intro y hy; simp [flatW] at hy
  | cons p l ih =>
    intro y hy
    rw [flatW_cons] at hy
    simp only [List.mem_cons] at hy
    rcases hy with rfl | rfl | rfl | rfl | hy
    · rfl
    · rfl
    · rfl
    · rfl
    · exact ih y hy
theorem flatW_set (l : List Wr) (a : Int) (t : ByteArray) (b c : Int) : ∀ i, i < l.length → ((((flatW l).set (i * 4) (.int .i64 a)).set (i * 4 + 1) (.string t)).set (i * 4 + 2) (.int .i64 b)).set (i * 4 + 3) (.int .i64 c) = flatW (l.set i (a, t, b, c)) := by
  induction l with
  | nil => intro i h; simp at h
  | cons p l ih =>
    intro i h
    cases i with
    | zero => simp [flatW_cons]
    | succ i =>
      have := ih i (by simpa using h)
      rw [flatW_cons, List.set_cons_succ, flatW_cons, show (i + 1) * 4 = i * 4 + 1 + 1 + 1 + 1 by omega, show i * 4 + 1 + 1 + 1 + 1 + 1 = (i * 4 + 1) + 1 + 1 + 1 + 1 by omega, show i * 4 + 1 + 1 + 1 + 1 + 2 = (i * 4 + 2) + 1 + 1 + 1 + 1 by omega, show i * 4 + 1 + 1 + 1 + 1 + 3 = (i * 4 + 3) + 1 + 1 + 1 + 1 by omega]
      simp only [List.set_cons_succ, this]

theorem Row.writs {w : World} {v : Value} {l : List Wr} (h : Row w v l.length (flatW l)) :
    ∃ (a : Option Addr) (b off cap : Nat), v = .slice a l.length cap ∧ l.length ≤ cap ∧ cap ≤ maxLen ∧ (0 < l.length → a = some ⟨b, off, none⟩) ∧
      (∀ i, i < l.length → w.cell? ⟨b, off + i * 4, none⟩ = some (.int .i64 (wA l i)) ∧ w.cell? ⟨b, off + i * 4 + 1, none⟩ = some (.string (wT l i)) ∧ w.cell? ⟨b, off + i * 4 + 2, none⟩ = some (.int .i64 (wV l i)) ∧ w.cell? ⟨b, off + i * 4 + 3, none⟩ = some (.int .i64 (wR l i))) := by
  obtain ⟨a, b, off, cap, h1, h2, h3, h4, h5, _⟩ := h
  exact ⟨a, b, off, cap, h1, h2, h3, h4, fun i hi => ⟨h5 _ _ (flatW_at l i hi).1, h5 _ _ (flatW_at l i hi).2.1, h5 _ _ (flatW_at l i hi).2.2.1, h5 _ _ (flatW_at l i hi).2.2.2⟩⟩
theorem extW {l1 l2 : List Wr} (hl : l1.length = l2.length) (h : ∀ i, i < l1.length → wA l1 i = wA l2 i ∧ wT l1 i = wT l2 i ∧ wV l1 i = wV l2 i ∧ wR l1 i = wR l2 i) : l1 = l2 := by
  apply List.ext_getElem hl
  intro i h1 h2
  have := h i h1
  simp only [wA, wT, wV, wR, List.getD, List.getElem?_eq_getElem h1, List.getElem?_eq_getElem h2, Option.getD_some] at this
  exact Prod.ext this.1 (Prod.ext this.2.1 (Prod.ext this.2.2.1 this.2.2.2))
def vW (a : Int) (t : ByteArray) (b c : Int) : Value := .agg #[.int .i64 a, .string t, .int .i64 b, .int .i64 c]

theorem bel_al {w u : World} (h : Below w.heap.size w u) (o : Obj) : Below w.heap.size w (u.alloc o) := h.alloc h.size o
set_option maxHeartbeats 400000 in
theorem toSuper_at (k v : Int) (w : World) :
    Calls Tryd.prog 45 #[.agg #[.int .i64 k, .int .i64 v]] w fun e w' => e = .returned (.agg #[.int .i64 k, .int .i64 v]) ∧ ∃ A B C, w' = ((w.alloc A).alloc B).alloc C := by
  go_enter Tryd.func45, Tryd.ntmps45
  go_wp2
  refine bodyPost_ret (v := .agg #[.int .i64 k, .int .i64 v]) (by simp [results, Tryd.results45, go_sem]) rfl ⟨rfl, _, _, _, rfl⟩

def eqWrB (a : Int) (t : ByteArray) (b c : Int) (a' : Int) (t' : ByteArray) (b' c' : Int) : Bool := decide (a = a' ∧ t = t' ∧ b = b' ∧ c = c')
end Go.Proofs.YtckphbmlmjlipaaDoor

namespace Go.Proofs.YtckphbmlmjlipaaDoor
open Go.RowKit

def texts (l : List Wr) : List ByteArray := l.map fun p => p.2.1
theorem texts_length (l : List Wr) : (texts l).length = l.length := by simp [texts]
theorem texts_at (l : List Wr) (i : Nat) (h : i < l.length) : sOf (texts l) i = wT l i := by simp [texts, sOf, wT, List.getD, h]

end Go.Proofs.YtckphbmlmjlipaaDoor

namespace Go.Proofs.YtckphbmlmjlipaaDoor
open Go.RowKit

def zeroW : Wr := (0, ⟨#[]⟩, 0, 0)
theorem flatW_zeros (n : Nat) : (madeCells #[.int .i64 0, .string ⟨#[]⟩, .int .i64 0, .int .i64 0] (n * 4)).toList = flatW (List.replicate n zeroW) := by
  apply List.ext_getElem?
  intro j
  by_cases hj : j < n * 4
  · have hi : j / 4 < (List.replicate n zeroW).length := by simp; omega
    have hat := flatW_at (List.replicate n zeroW) (j / 4) hi
    have hz : (List.replicate n zeroW).getD (j / 4) (0, ⟨#[]⟩, 0, 0) = zeroW := by simp [List.getD, show j / 4 < n by omega]
    simp only [wA, wT, wV, wR, hz] at hat
    have hc : (madeCells #[.int .i64 0, .string ⟨#[]⟩, .int .i64 0, .int .i64 0] (n * 4)).toList[j]? = some ((#[.int .i64 0, .string ⟨#[]⟩, .int .i64 0, .int .i64 0] : Array Value)[j % 4]!) := by simp [madeCells, hj]
    rw [hc]
    rcases (show j % 4 = 0 ∨ j % 4 = 1 ∨ j % 4 = 2 ∨ j % 4 = 3 by omega) with h | h | h | h
    · rw [h, ← (show j / 4 * 4 = j by omega), hat.1]; rfl
    · rw [h, ← (show j / 4 * 4 + 1 = j by omega), hat.2.1]; rfl
    · rw [h, ← (show j / 4 * 4 + 2 = j by omega), hat.2.2.1]; rfl
    · rw [h, ← (show j / 4 * 4 + 3 = j by omega), hat.2.2.2]; rfl
  · rw [List.getElem?_eq_none (by simp [madeCells]; omega), List.getElem?_eq_none (by rw [flatW_length]; simp; omega)]

def wAll (l : List Wr) (i : Nat) : Wr := (wA l i, wT l i, wV l i, wR l i)
theorem wAll_eq (l : List Wr) (i : Nat) (h : i < l.length) : wAll l i = l[i] := by simp [wAll, wA, wT, wV, wR, List.getD, h]
def fillW (l : List Wr) (k : Nat) : List Wr := l.take k ++ List.replicate (l.length - k) zeroW
theorem fillW_length (l : List Wr) (k : Nat) (hk : k ≤ l.length) : (fillW l k).length = l.length := by simp [fillW]; omega
theorem fillW_full (l : List Wr) : fillW l l.length = l := by simp [fillW]
theorem fillW_step (l : List Wr) (k : Nat) (hk : k < l.length) : (fillW l k).set k (wA l k, wT l k, wV l k, wR l k) = fillW l (k + 1) := by
  obtain ⟨m, hm⟩ : ∃ m, l.length - k = m + 1 := ⟨l.length - k - 1, by omega⟩
  have hm2 : l.length - (k + 1) = m := by omega
  have e := wAll_eq l k hk
  unfold wAll at e
  rw [fillW, fillW, hm, hm2, List.replicate_succ, List.set_append_right _ _ (by simp; omega), List.length_take, show k - min k l.length = 0 by omega, List.set_cons_zero, List.take_succ_eq_append_getElem hk, e, List.append_assoc, List.singleton_append]

theorem eqWrB_true {l1 l2 : List Wr} {k : Nat} (h : eqWrB (wA l1 k) (wT l1 k) (wV l1 k) (wR l1 k) (wA l2 k) (wT l2 k) (wV l2 k) (wR l2 k) = true) : wA l1 k = wA l2 k ∧ wT l1 k = wT l2 k ∧ wV l1 k = wV l2 k ∧ wR l1 k = wR l2 k := by simpa [eqWrB] using h
theorem ne_of_eqWrB {l1 l2 : List Wr} {k : Nat} (h : eqWrB (wA l1 k) (wT l1 k) (wV l1 k) (wR l1 k) (wA l2 k) (wT l2 k) (wV l2 k) (wR l2 k) = false) : l1 ≠ l2 := by
  intro e; subst e; simp [eqWrB] at h

end Go.Proofs.YtckphbmlmjlipaaDoor

namespace Go.Proofs.YtckphbmlmjlipaaDoor
open Go.RowKit

def marksW (k : Int) (n : Nat) : List Wr := (List.range n).map fun (i : Nat) => (k + 4 * i, markT (k + 4 * i + 1), k + 4 * i + 1 + 1, k + 4 * i + 1 + 1 + 1)
theorem marksW_length (k : Int) (n : Nat) : (marksW k n).length = n := by simp [marksW]
theorem marksW_succ (k : Int) (n : Nat) : marksW k (n + 1) = marksW k n ++ [(k + 4 * n, markT (k + 4 * n + 1), k + 4 * n + 1 + 1, k + 4 * n + 1 + 1 + 1)] := by simp [marksW, List.range_succ]
def midW (k : Int) (l : List Wr) (i : Nat) : List Wr := marksW k i ++ l.drop i
theorem midW_length (k : Int) (l : List Wr) (i : Nat) (h : i ≤ l.length) : (midW k l i).length = l.length := by simp [midW, marksW_length]; omega
theorem midW_zero (k : Int) (l : List Wr) : midW k l 0 = l := by simp [midW, marksW]
theorem midW_full (k : Int) (l : List Wr) : midW k l l.length = marksW k l.length := by simp [midW]
theorem midW_step (k : Int) (l : List Wr) (i : Nat) (h : i < l.length) : (midW k l i).set i (k + 4 * i, markT (k + 4 * i + 1), k + 4 * i + 1 + 1, k + 4 * i + 1 + 1 + 1) = midW k l (i + 1) := by
  rw [midW, midW, marksW_succ, List.drop_eq_getElem_cons h, List.set_append_right _ _ (by rw [marksW_length]; omega), marksW_length, Nat.sub_self, List.set_cons_zero]
  simp

end Go.Proofs.YtckphbmlmjlipaaDoor

namespace Go.Proofs.YtckphbmlmjlipaaDoor
open Go.RowKit

abbrev PgL := List ByteArray
abbrev SL := List (Int × Int)
/-- the struct of the slices vp, vs leads to the pages P and the supers S -/
def DiskRow (w : World) (v : Value) (P : PgL) (S : SL) : Prop := ∃ vp vs, v = .agg #[vp, vs] ∧ Row w vp P.length (flatS P) ∧ Row w vs S.length (flatP S)
/-- and these are memory of its own, from the block base on -/
def DiskOwn (w : World) (base : Nat) (v : Value) (P : PgL) (S : SL) : Prop := ∃ vp vs, v = .agg #[vp, vs] ∧ w.ownsRow base 9 1 vp P.length (flatS P) ∧ w.ownsRow base 67 2 vs S.length (flatP S)
theorem DiskRow.below {w w' : World} {v : Value} {P : PgL} {S : SL} (h : DiskRow w v P S) (hb : Below w.heap.size w w') : DiskRow w' v P S := by
  obtain ⟨vp, vs, rfl, h1, h2⟩ := h
  exact ⟨vp, vs, rfl, h1.below hb, h2.below hb⟩
theorem DiskOwn.below {w w' : World} {base : Nat} {v : Value} {P : PgL} {S : SL} (h : DiskOwn w base v P S) (hb : Below w.heap.size w w') : DiskOwn w' base v P S := by
  obtain ⟨vp, vs, rfl, h1, h2⟩ := h
  exact ⟨vp, vs, rfl, owns_below h1 hb, owns_below h2 hb⟩
theorem DiskOwn.mono {w : World} {base base' : Nat} {v : Value} {P : PgL} {S : SL} (h : DiskOwn w base v P S) (hb : base' ≤ base) : DiskOwn w base' v P S := by
  obtain ⟨vp, vs, rfl, h1, h2⟩ := h
  exact ⟨vp, vs, rfl, owns_mono h1 hb, owns_mono h2 hb⟩
theorem DiskOwn.row {w : World} {base : Nat} {v : Value} {P : PgL} {S : SL} (h : DiskOwn w base v P S) : DiskRow w v P S := by
  obtain ⟨vp, vs, rfl, h1, h2⟩ := h
  exact ⟨vp, vs, rfl, Row.of_owns h1, Row.of_owns h2⟩
/-- the blocks of a disk -/
def dBlk (v : Value) (g : Nat) : Prop := ∃ vp vs, v = .agg #[vp, vs] ∧ (vp.ownBlock = some g ∨ vs.ownBlock = some g)
theorem DiskOwn.lt {w : World} {base : Nat} {v : Value} {P : PgL} {S : SL} (h : DiskOwn w base v P S) {g : Nat} (hg : dBlk v g) : base ≤ g ∧ g < w.heap.size := by
  obtain ⟨vp, vs, rfl, h1, h2⟩ := h
  obtain ⟨vp', vs', e, hg⟩ := hg
  simp at e
  obtain ⟨rfl, rfl⟩ := e
  rcases hg with hg | hg
  · exact h1.lt g hg
  · exact h2.lt g hg
theorem DiskOwn.chg {F : Nat → Prop} {w w' : World} {base : Nat} {v : Value} {P : PgL} {S : SL} (h : DiskOwn w base v P S) (hc : Chg F w w') (hF : ∀ g, dBlk v g → ¬ F g) : DiskOwn w' base v P S := by
  obtain ⟨vp, vs, rfl, h1, h2⟩ := h
  exact ⟨vp, vs, rfl, owns_chg h1 hc (fun g hg => hF g ⟨vp, vs, rfl, Or.inl hg⟩), owns_chg h2 hc (fun g hg => hF g ⟨vp, vs, rfl, Or.inr hg⟩)⟩
/-- a row of strings and a row of supers never share a block -/
theorem blk_ne {w : World} {b1 b2 n m : Nat} {vp vs : Value} {xs ys : List Value} (h1 : w.ownsRow b1 9 1 vp n xs) (h2 : w.ownsRow b2 67 2 vs m ys) {g : Nat} (hp : vp.ownBlock = some g) : ¬ vs.ownBlock = some g := by
  intro hs
  obtain ⟨_, c1, e1⟩ := owns_lt h1 hp
  obtain ⟨_, c2, e2⟩ := owns_lt h2 hs
  rw [e1] at e2
  simp at e2

def szD (P : PgL) (S : SL) (left : Int) : Int := if szSall P left < 0 then -1 else if (S.length : Int) ≤ szSall P left then szSall P left - S.length else -1
theorem szSall_le (l : List ByteArray) (left : Int) (h : 0 ≤ left) : szSall l left ≤ left := by
  unfold szSall
  split
  · omega
  · have := szS_le l (left - l.length) (by omega); omega
theorem szSall_len {l : List ByteArray} {left : Int} (h : 0 ≤ szSall l left) : (l.length : Int) + szSall l left ≤ left := by
  unfold szSall at h ⊢
  split
  · rename_i hc; rw [if_pos hc] at h; omega
  · have := szS_le l (left - l.length) (by omega); omega
theorem szD_len {P : PgL} {S : SL} {left : Int} (h : 0 ≤ szD P S left) : (P.length : Int) + S.length + szD P S left ≤ left := by
  unfold szD at h ⊢
  by_cases h1 : szSall P left < 0
  · rw [if_pos h1] at h; omega
  · rw [if_neg h1] at h ⊢
    by_cases h2 : (S.length : Int) ≤ szSall P left
    · rw [if_pos h2] at h ⊢
      have := szSall_len (l := P) (left := left) (by omega)
      omega
    · rw [if_neg h2] at h; omega

set_option maxHeartbeats 400000 in
theorem szDisk_any (v : Value) (P : PgL) (S : SL) (left : Int) (w : World) (hr : DiskRow w v P S) (hz : ∀ s ∈ P, s.size ≤ maxLen) (hl : 0 ≤ left) (hl2 : left ≤ 1048576) :
    Calls Tryd.prog 5 #[v, .int .i64 left] w fun e w' => e = .returned (.int .i64 (szD P S left)) ∧ Below w.heap.size w w' := by
  obtain ⟨vp, vs, rfl, h1, h2⟩ := hr
  have hle := szSall_le P left hl
  have hm : S.length ≤ maxLen := by obtain ⟨a, b, off, cap, _, q1, q2, _⟩ := h2; omega
  obtain ⟨a, b, off, cap, hv, _⟩ := h2
  subst hv
  have R1 : Hid _ := h1.below (bel_al (w := w) (Below.refl _ _) (.cells #[vp, .slice a S.length cap] 25))
  clear h1
  go_enter Tryd.func5, Tryd.ntmps5
  go_wp2_with fail
  refine (szStringS_any vp P left _ R1.out hz hl hl2).mono ?_
  rintro e w1 ⟨rfl, hw1⟩
  subst hw1
  have SD : Hid (szD P S left = if szSall P left < 0 then -1 else if (S.length : Int) ≤ szSall P left then szSall P left - S.length else -1) := rfl
  generalize szSall P left = x at *
  by_cases hx : x < 0
  · rw [if_pos hx] at SD
    go_wp2
    go_ret
    exact ⟨ret_int SD.out.symm, bel_al (Below.refl _ _) _⟩
  · rw [if_neg hx] at SD
    go_wp2_with fail
    refine (szSuperS_any a S.length cap x hm (by omega) (by omega) _).mono ?_
    rintro e w1 ⟨rfl, hw1⟩
    subst hw1
    by_cases hc : (S.length : Int) ≤ x
    · rw [if_pos hc] at SD ⊢
      go_wp2
      go_ret
      exact ⟨ret_int SD.out.symm, bel_al (Below.refl _ _) _⟩
    · rw [if_neg hc] at SD ⊢
      go_wp2
      go_ret
      exact ⟨ret_int SD.out.symm, bel_al (Below.refl _ _) _⟩

theorem al_size (w : World) (A : Obj) : (w.alloc A).heap.size = w.heap.size + 1 := by simp
theorem al3 (w : World) (A B C : Obj) : (((w.alloc A).alloc B).alloc C).heap[w.heap.size]? = some A ∧ (((w.alloc A).alloc B).alloc C).heap[w.heap.size + 1]? = some B ∧ (((w.alloc A).alloc B).alloc C).heap[w.heap.size + 1 + 1]? = some C := by
  have s1 := al_size w A
  have s2 := al_size (w.alloc A) B
  have n1 := heap_alloc_new w A
  have n2 := heap_alloc_new (w.alloc A) B
  have n3 := heap_alloc_new ((w.alloc A).alloc B) C
  have k2 := fun (k : Nat) (h : k < (w.alloc A).heap.size) => (bel_al (w := w.alloc A) (Below.refl _ _) B).block k h
  have k3 := fun (k : Nat) (h : k < ((w.alloc A).alloc B).heap.size) => (bel_al (w := (w.alloc A).alloc B) (Below.refl _ _) C).block k h
  rw [s1] at n2
  rw [s2, s1] at n3
  refine ⟨?_, ?_, n3⟩
  · rw [k3 _ (by omega), k2 _ (by omega), n1]
  · rw [k3 _ (by omega), n2]

set_option maxHeartbeats 400000 in
theorem toDisk_any (v : Value) (P : PgL) (S : SL) (w : World) (hr : DiskRow w v P S) (hP : P.length ≤ 1048576) (hS : S.length ≤ 1048576) :
    Calls Tryd.prog 7 #[v] w fun e w' => ∃ v', e = .returned v' ∧ DiskOwn w' w.heap.size v' P S ∧ Below w.heap.size w w' := by
  obtain ⟨vp, vs, rfl, h1, h2⟩ := hr
  generalize hW : ((w.alloc (.cells #[vp, vs] 25)).alloc (.cells #[.slice none 0 0, .slice none 0 0] 37)).alloc (.cells #[.slice none 0 0, .slice none 0 0] 37) = W
  have bW : Below w.heap.size w W := by rw [← hW]; exact bel_al (bel_al (bel_al (Below.refl _ _) _) _) _
  have sW : W.heap.size = w.heap.size + 1 + 1 + 1 := by rw [← hW]; simp
  obtain ⟨a0, a1, a2⟩ := al3 w (.cells #[vp, vs] 25) (.cells #[.slice none 0 0, .slice none 0 0] 37) (.cells #[.slice none 0 0, .slice none 0 0] 37)
  rw [hW] at a0 a1 a2
  have R1 := h1.below bW
  have R2 : Hid (Row w vs S.length (flatP S)) := h2
  have HW : Hid _ := hW
  have B0 : Hid _ := And.intro bW (And.intro sW (And.intro a0 (And.intro a1 a2)))
  clear bW sW a0 a1 a2 h1 h2 hW
  go_enter Tryd.func7, Tryd.ntmps7
  go_wp2_with fail
  rw [HW.out]
  refine (toStringS_any vp P W R1 hP).mono ?_
  rintro e w1 ⟨v1, rfl, o1, b1⟩
  obtain ⟨ad1, q1, rfl⟩ := owns_val o1
  obtain ⟨bW, sW, a0, a1, a2⟩ := B0.out
  have a0' := (b1.block _ (by omega)).trans a0
  have a1' := (b1.block _ (by omega)).trans a1
  have a2' := (b1.block _ (by omega)).trans a2
  have s1 := b1.size
  have c1 : w1.cell? ⟨w.heap.size, 1, none⟩ = some vs := cell_of_cells a0'
  have c2 : w1.cell? ⟨w.heap.size + 1 + 1, 0, none⟩ = some (.slice none 0 0) := cell_of_cells a2'
  have f2 : w1.frozen? ⟨w.heap.size + 1 + 1, 0, none⟩ = false := frozen_of_cells a2'
  have a2'' := heap_setCell_same w1 (w.heap.size + 1 + 1) 0 _ _ (.slice ad1 P.length q1) a2'
  have a1'' := (heap_setCell_other w1 ⟨w.heap.size + 1 + 1, 0, none⟩ (w.heap.size + 1) (.slice ad1 P.length q1) (by simp)).trans a1'
  have BS : Below w.heap.size w (w1.setCell ⟨w.heap.size + 1 + 1, 0, none⟩ (.slice ad1 P.length q1)) := (Below.and bW b1).setCell (p := ⟨w.heap.size + 1 + 1, 0, none⟩) (by show w.heap.size ≤ w.heap.size + 1 + 1; omega) (.slice ad1 P.length q1)
  have ss : (w1.setCell ⟨w.heap.size + 1 + 1, 0, none⟩ (.slice ad1 P.length q1)).heap.size = w1.heap.size := by simp
  have R2' := R2.out.below BS
  have I1 : Hid _ := And.intro o1 (And.intro BS (And.intro a1'' (And.intro a2'' (And.intro ss (And.intro s1 sW)))))
  clear bW sW a0 a1 a2 a0' a1' a2' a1'' a2'' BS ss o1 b1 s1 B0 HW R1
  go_wp2_with fail
  refine (toSuperS_any vs S _ R2' hS).mono ?_
  rintro e w2 ⟨v2, rfl, o2, b2⟩
  obtain ⟨ad2, q2, rfl⟩ := owns_val o2
  obtain ⟨o1, BS, a1, a2, ss, s1, sW⟩ := I1.out
  have a1' := (b2.block _ (by omega)).trans a1
  have a2' := (b2.block _ (by omega)).trans a2
  have c3 : w2.cell? ⟨w.heap.size + 1 + 1, 0, none⟩ = some (.slice ad1 P.length q1) := cell_of_cells a2'
  have c4 : w2.cell? ⟨w.heap.size + 1 + 1, 1, none⟩ = some (.slice none 0 0) := cell_of_cells a2'
  have f4 : w2.frozen? ⟨w.heap.size + 1 + 1, 1, none⟩ = false := frozen_of_cells a2'
  have c5 : w2.cell? ⟨w.heap.size + 1, 0, none⟩ = some (.slice none 0 0) := cell_of_cells a1'
  have c6 : w2.cell? ⟨w.heap.size + 1, 1, none⟩ = some (.slice none 0 0) := cell_of_cells a1'
  have f5 : w2.frozen? ⟨w.heap.size + 1, 0, none⟩ = false := frozen_of_cells a1'
  have f6 : w2.frozen? ⟨w.heap.size + 1, 1, none⟩ = false := frozen_of_cells a1'
  have a2'' := heap_setCell_same w2 (w.heap.size + 1 + 1) 1 _ _ (.slice ad2 S.length q2) a2'
  have B2 : Below w.heap.size w w2 := BS.trans (b2.mono (by omega))
  have I2 : Hid _ := And.intro o1 (And.intro o2 (And.intro B2 (And.intro b2 (And.intro ss (And.intro s1 sW)))))
  clear o1 BS a1 a2 ss s1 sW a1' a2' B2 o2 b2 I1 R2 R2' c1 c2 f2 a2''
  go_wp2
  obtain ⟨o1, o2, B2, b2, ss, s1, sW⟩ := I2.out
  have ch2 : Chg (fun g => g = w.heap.size + 1 ∨ g = w.heap.size + 1 + 1) w2 (((w2.setCell ⟨w.heap.size + 1 + 1, 1, none⟩ (.slice ad2 S.length q2)).setCell ⟨w.heap.size + 1, 0, none⟩ (.slice ad1 P.length q1)).setCell ⟨w.heap.size + 1, 1, none⟩ (.slice ad2 S.length q2)) :=
    (((Chg.refl _ _).setAt _ _ (Or.inr rfl) _).setAt _ _ (Or.inl rfl) _).setAt _ _ (Or.inl rfl) _
  have ch1 : Chg (fun g => g = w.heap.size + 1 ∨ g = w.heap.size + 1 + 1) w1 w2 := ((Chg.refl _ _).setAt (w.heap.size + 1 + 1) 0 (Or.inr rfl) (.slice ad1 P.length q1)).trans (Chg.of_below b2) (fun _ _ e => e)
  have l1 : ∀ g, (Value.slice ad1 P.length q1).ownBlock = some g → ¬ (g = w.heap.size + 1 ∨ g = w.heap.size + 1 + 1) := fun g hg => by have := (o1.lt g hg).1; omega
  have l2 : ∀ g, (Value.slice ad2 S.length q2).ownBlock = some g → ¬ (g = w.heap.size + 1 ∨ g = w.heap.size + 1 + 1) := fun g hg => by have := (o2.lt g hg).1; omega
  refine bodyPost_ret (v := .agg #[.slice ad1 P.length q1, .slice ad2 S.length q2]) (by simp [results, Tryd.results7, go_sem, c5, c6]) rfl ⟨_, rfl, ⟨_, _, rfl, ?_, ?_⟩, ?_⟩
  · exact owns_mono (owns_chg (owns_chg o1 ch1 l1) ch2 l1) (by omega)
  · exact owns_mono (owns_chg o2 ch2 l2) (by omega)
  · exact ((B2.setCell (p := ⟨w.heap.size + 1 + 1, 1, none⟩) (by show w.heap.size ≤ w.heap.size + 1 + 1; omega) _).setCell (p := ⟨w.heap.size + 1, 0, none⟩) (by show w.heap.size ≤ w.heap.size + 1; omega) _).setCell (p := ⟨w.heap.size + 1, 1, none⟩) (by show w.heap.size ≤ w.heap.size + 1; omega) _

set_option maxHeartbeats 400000 in
theorem eqDisk_any (v1 v2 : Value) (P P' : PgL) (S S' : SL) (w : World) (h1 : DiskRow w v1 P S) (h2 : DiskRow w v2 P' S') :
    Calls Tryd.prog 10 #[v1, v2] w fun e w' => e = .returned (.bool (decide (P = P') && decide (S = S'))) ∧ Below w.heap.size w w' := by
  obtain ⟨vp, vs, rfl, r1, r2⟩ := h1
  obtain ⟨vp', vs', rfl, r3, r4⟩ := h2
  generalize hW : (w.alloc (.cells #[vp, vs] 37)).alloc (.cells #[vp', vs'] 37) = W
  have bW : Below w.heap.size w W := by rw [← hW]; exact bel_al (bel_al (Below.refl _ _) _) _
  obtain ⟨a0, a1, _⟩ := al3 w (.cells #[vp, vs] 37) (.cells #[vp', vs'] 37) (.cells #[] 0)
  have sW : W.heap.size = w.heap.size + 1 + 1 := by rw [← hW]; simp
  rw [hW] at a0 a1
  have a0' := ((bel_al (w := W) (Below.refl _ _) (.cells #[] 0)).block w.heap.size (by omega)).symm.trans a0
  have a1' := ((bel_al (w := W) (Below.refl _ _) (.cells #[] 0)).block (w.heap.size + 1) (by omega)).symm.trans a1
  have q1 := r1.below bW
  have q3 := r3.below bW
  have HW : Hid _ := hW
  have I : Hid _ := And.intro bW (And.intro sW (And.intro a0' (And.intro a1' (And.intro r2 r4))))
  clear hW bW sW a0 a1 a0' a1' r1 r2 r3 r4
  go_enter Tryd.func10, Tryd.ntmps10
  go_wp2_with fail
  rw [HW.out]
  refine (eqStringS_any vp vp' P P' W q1 q3).mono ?_
  rintro e w1 ⟨rfl, b1⟩
  obtain ⟨bW, sW, a0, a1, r2, r4⟩ := I.out
  have a0' := (b1.block _ (by omega)).trans a0
  have a1' := (b1.block _ (by omega)).trans a1
  have c1 : w1.cell? ⟨w.heap.size, 1, none⟩ = some vs := cell_of_cells a0'
  have c2 : w1.cell? ⟨w.heap.size + 1, 1, none⟩ = some vs' := cell_of_cells a1'
  have B1 := Below.and bW b1
  have q2 := r2.below B1
  have q4 := r4.below B1
  have HB : Hid _ := B1
  clear bW sW a0 a1 r2 r4 a0' a1' B1 b1 I HW q1 q3
  by_cases hp : P = P'
  · have hd : decide (P = P') = true := decide_eq_true hp
    have E : Hid ((decide (P = P') && decide (S = S')) = decide (S = S')) := by rw [hd]; exact Bool.true_and _
    rw [hd]
    clear hp hd
    go_wp2_with fail
    refine (eqSuperS_any vs vs' S S' w1 q2 q4).mono ?_
    rintro e w2 ⟨rfl, b2⟩
    have HB2 : Hid _ := Below.and HB.out b2
    clear b2 q2 q4 c1 c2 HB
    generalize hs : decide (S = S') = d
    have HD : Hid _ := hs
    clear hs
    cases d
    · go_wp2
      go_ret
      exact ⟨ret_bool (by rw [E.out, HD.out]), HB2.out⟩
    · go_wp2
      go_ret
      exact ⟨ret_bool (by rw [E.out, HD.out]), HB2.out⟩
  · have hd : decide (P = P') = false := decide_eq_false hp
    have E : Hid ((decide (P = P') && decide (S = S')) = false) := by rw [hd]; exact Bool.false_and _
    rw [hd]
    clear hp hd
    go_wp2
    go_ret
    exact ⟨ret_bool E.out.symm, HB.out⟩

set_option maxHeartbeats 400000 in
theorem markDisk_any (v : Value) (P : PgL) (S : SL) (k : Int) (w : World) (h : DiskOwn w 0 v P S) (hP : P.length ≤ 1048576) (hS : S.length ≤ 1048576) (hk0 : 0 < k) (hk1 : k ≤ 1000000) :
    Calls Tryd.prog 11 #[v, .int .i64 k] w fun e w' => e = .returned (.int .i64 (k + P.length + 2 * S.length)) ∧ DiskOwn w' 0 v (marksS k P.length) (marksP (k + P.length) S.length) ∧ Chg (dBlk v) w w' := by
  obtain ⟨vp, vs, rfl, o1, o2⟩ := h
  generalize hW : w.alloc (.cells #[vp, vs] 37) = W
  have bW : Below w.heap.size w W := by rw [← hW]; exact bel_al (Below.refl _ _) _
  have sW : W.heap.size = w.heap.size + 1 := by rw [← hW]; simp
  have a0 : W.heap[w.heap.size]? = some (.cells #[vp, vs] 37) := by rw [← hW]; exact heap_alloc_new _ _
  have q1 := owns_below o1 bW
  have q2 := owns_below o2 bW
  have HW : Hid _ := hW
  have I : Hid _ := And.intro bW (And.intro sW (And.intro a0 (And.intro q2 (And.intro o1 o2))))
  clear hW bW sW a0 o1 o2 q2
  go_enter Tryd.func11, Tryd.ntmps11
  go_wp2_with fail
  rw [HW.out]
  refine (markStringS_any vp P k W q1 (by omega) hk0 (by omega)).mono ?_
  rintro e w1 ⟨rfl, o1', c1'⟩
  obtain ⟨bW, sW, a0, q2, o1, o2⟩ := I.out
  have ne1 : ¬ vp.ownBlock = some w.heap.size := fun e => by have := (o1.lt _ e).2; omega
  have ne2 : ¬ vs.ownBlock = some w.heap.size := fun e => by have := (o2.lt _ e).2; omega
  have a0' := row_chg a0 c1' ne1
  have c1 : w1.cell? ⟨w.heap.size, 1, none⟩ = some vs := cell_of_cells a0'
  have q2' := owns_chg q2 c1' (fun g hs hp => blk_ne o1 o2 hp hs)
  have J : Hid _ := And.intro bW (And.intro o1' (And.intro c1' (And.intro o1 o2)))
  clear bW sW a0 q2 o1 o2 a0' o1' c1' ne1 ne2 I HW q1
  have hk3 : k + (P.length : Int) ≤ 4000000 := by omega
  have hk4 : 0 ≤ k + (P.length : Int) := by omega
  go_wp2_with fail
  refine (markSuperS_any vs S (k + P.length) w1 q2' (by omega) hk4 (by omega)).mono ?_
  rintro e w2 ⟨rfl, o2', c2'⟩
  obtain ⟨bW, o1', c1', o1, o2⟩ := J.out
  have o1'' := owns_chg o1' c2' (fun g hp hs => blk_ne o1 o2 hp hs)
  have HF : Hid (DiskOwn w2 0 (.agg #[vp, vs]) (marksS k P.length) (marksP (k + P.length) S.length) ∧ Chg (dBlk (.agg #[vp, vs])) w w2) := by
    refine ⟨⟨vp, vs, rfl, ?_, ?_⟩, ?_⟩
    · rw [marksS_length]; exact o1''
    · rw [marksP_length]; exact o2'
    · refine ((Chg.of_below bW).trans c1' ?_).trans c2' ?_
      · exact fun g _ hg => ⟨vp, vs, rfl, Or.inl hg⟩
      · exact fun g _ hg => ⟨vp, vs, rfl, Or.inr hg⟩
  clear bW o1' c1' o1 o2 o2' c2' o1'' J q2' c1
  go_wp2
  go_ret
  exact ⟨rfl, HF.out⟩

end Go.Proofs.YtckphbmlmjlipaaDoor
