/-
  The numbers of a node, and their bytes, as plain functions.
  Numbers in a row put into bytes: the program's formsOf, the model's l5Nums.
  Trees that own their memory; contracts of the laws' own functions that copy a tree.
  Contracts of the laws' own functions that copy a tree, of any height.
  Contracts of the program's chapter 2: kindOf, tooDeep, has, splits, rootOf, kid.
  Rows of one's own that may be empty without room; appending to them, and where it lies.
  The numbers of a node: the program's numsOfLeaf, numsOfFork, numsOfNode.
-/
import Derived.Test.YtckphbmlmjlipaaDoorPart1
import Derived.Test.YtckphbmlmjlipaaDoorPart3
import Derived.Test.YtckphbmlmjlipaaDoorPart2
namespace Go.Proofs.YtckphbmlmjlipaaDoor
open Go.RowKit

theorem Tryd.infoInt : (Tryd.prog.info? 3).map (fun i => (i.zero, i.size, i.bytes)) = some (some (.int .i64 0), 1, 8) := by kernel_rfl
def OwnI (base : Nat) (w : World) (v : Value) (l : List Int) : Prop := w.ownsRow base 3 1 v l.length (flatI l)
theorem flatI_append (l m : List Int) : flatI (l ++ m) = flatI l ++ flatI m := by simp [flatI]
theorem flatI_oneC (l : List Int) : ∀ y ∈ flatI l, y.oneCell' = true := by
  intro v hv
  obtain ⟨z, _, rfl⟩ := List.mem_map.1 hv
  rfl
theorem Row.nums {w : World} {v : Value} {l : List Int} (h : Row w v l.length (flatI l)) :
    ∃ (a : Option Addr) (b off cap : Nat), v = .slice a l.length cap ∧ l.length ≤ cap ∧ cap ≤ maxLen ∧ (0 < l.length → a = some ⟨b, off, none⟩) ∧
      (∀ i, i < l.length → w.cell? ⟨b, off + i, none⟩ = some (.int .i64 (iAt l i))) := by
  obtain ⟨a, b, off, cap, h1, h2, h3, h4, h5, _⟩ := h
  exact ⟨a, b, off, cap, h1, h2, h3, h4, fun i hi => h5 _ _ (flatI_at l i hi)⟩
theorem OwnI.row {base : Nat} {w : World} {v : Value} {l : List Int} (h : OwnI base w v l) : Row w v l.length (flatI l) := Row.of_owns h
theorem OwnB.row {base : Nat} {w : World} {v : Value} {l : List Int} (h : OwnB base w v l) : Row w v l.length (flatB l) := Row.of_owns h

/-- every one has a form -/
abbrev okNums (l : List Int) : Prop := ∀ x ∈ l, -2000000000 ≤ x ∧ x ≤ 2000000000
theorem take_succI (l : List Int) (k : Nat) (hk : k < l.length) : l.take (k + 1) = l.take k ++ [iAt l k] := by
  rw [List.take_succ_eq_append_getElem hk]; simp [iAt, List.getD, hk]
theorem okNums_take {l : List Int} {k : Nat} (h : okNums (l.take k)) (hk : k < l.length) (hx : -2000000000 ≤ iAt l k ∧ iAt l k ≤ 2000000000) : okNums (l.take (k + 1)) := by
  rw [take_succI l k hk]
  intro x hx'
  rcases List.mem_append.1 hx' with h' | h'
  · exact h x h'
  · simp at h'; subst h'; exact hx
theorem okNums_not {l : List Int} {k : Nat} (hk : k < l.length) (hx : ¬ (-2000000000 ≤ iAt l k ∧ iAt l k ≤ 2000000000)) : ¬ okNums l := by
  intro h
  refine hx (h (iAt l k) ?_)
  have : iAt l k = l[k] := by simp [iAt, List.getD, hk]
  rw [this]; exact List.getElem_mem hk
def formsB (l : List Int) : List Int := l.flatMap putN
theorem formsB_length (l : List Int) : (formsB l).length ≤ 5 * l.length := by
  induction l with
  | nil => simp [formsB]
  | cons a l ih => have := putN_length a; simp only [formsB, List.flatMap_cons, List.length_append, List.length_cons] at *; omega
theorem formsB_succ (l : List Int) (k : Nat) (hk : k < l.length) : formsB (l.take (k + 1)) = formsB (l.take k) ++ putN (iAt l k) := by
  rw [take_succI l k hk]; simp [formsB]
theorem formsB_byte (l : List Int) : inByte (formsB l) := by
  intro b hb
  obtain ⟨x, _, hx⟩ := List.mem_flatMap.1 hb
  exact putN_byte x b hx

def pairNums (l : List (Int × Int)) : List Int := l.flatMap fun p => [p.1, p.2]
def msgNums (l : ML) : List Int := l.flatMap fun m => [m.1, m.2.1, m.2.2]
theorem pairNums_length (l : List (Int × Int)) : (pairNums l).length = 2 * l.length := by
  induction l with
  | nil => rfl
  | cons a l ih => simp only [pairNums, List.flatMap_cons, List.length_append, List.length_cons, List.length_nil] at *; omega
theorem msgNums_length (l : ML) : (msgNums l).length = 3 * l.length := by
  induction l with
  | nil => rfl
  | cons a l ih => simp only [msgNums, List.flatMap_cons, List.length_append, List.length_cons, List.length_nil] at *; omega
theorem pairNums_succ (l : List (Int × Int)) (k : Nat) (hk : k < l.length) : pairNums (l.take (k + 1)) = pairNums (l.take k) ++ [kOf l k, vOf l k] := by
  rw [take_succP l k hk]; simp [pairNums]
theorem msgNums_succ (l : ML) (k : Nat) (hk : k < l.length) : msgNums (l.take (k + 1)) = msgNums (l.take k) ++ [mO l k, mK l k, mV l k] := by
  have e : l[k] = (mO l k, mK l k, mV l k) := by simp [mO, mK, mV, List.getD, hk]
  rw [List.take_succ_eq_append_getElem hk, e]; simp [msgNums]
def leafNums (l : List (Int × Int)) : List Int := [1, (l.length : Int)] ++ pairNums l
def forkNums (T : Tr) (ks : List Int) : List Int := [0, (ks.length : Int)] ++ ks ++ T.cuts ++ [(T.buf.length : Int)] ++ msgNums T.buf
def nodeNums (T : Tr) (ks : List Int) : List Int := if T.leaf then leafNums T.pairs else forkNums T ks
/-- it has the shape of a node -/
abbrev nodeOkP (T : Tr) (ks : List Int) : Prop :=
  if T.leaf = true then ks.length = 0 ∧ T.cuts.length = 0 ∧ T.kids.length = 0 ∧ T.buf.length = 0 ∧ T.pairs.length ≤ 4
  else T.pairs.length = 0 ∧ ks.length = T.kids.length ∧ 1 ≤ ks.length ∧ ks.length ≤ 4 ∧ T.cuts.length + 1 = ks.length ∧ T.buf.length ≤ 6
theorem leafNums_length (l : List (Int × Int)) : (leafNums l).length = 2 + 2 * l.length := by simp [leafNums, pairNums_length]; omega
theorem forkNums_length (T : Tr) (ks : List Int) : (forkNums T ks).length = 3 + ks.length + T.cuts.length + 3 * T.buf.length := by simp [forkNums, msgNums_length]; omega
theorem nodeNums_length {T : Tr} {ks : List Int} (h : nodeOkP T ks) : (nodeNums T ks).length ≤ 40 := by
  unfold nodeOkP at h; unfold nodeNums
  split
  · rename_i hl; rw [if_pos hl] at h; rw [leafNums_length]; omega
  · rename_i hl; rw [if_neg hl] at h; rw [forkNums_length]; omega
/-- the bytes of a node, if it has any -/
def putNodeF (T : Tr) (ks : List Int) : Option (List Int) := if nodeOkP T ks ∧ okNums (nodeNums T ks) then some (formsB (nodeNums T ks)) else none

end Go.Proofs.YtckphbmlmjlipaaDoor

namespace Go.Proofs.YtckphbmlmjlipaaDoor
open Go.RowKit

theorem roomB {n m : Nat} (h : n + m ≤ 8388608) : n + m ≤ maxLen ∧ (n + m) * 1 ≤ 140737488355328 := ⟨by unfold maxLen; omega, by omega⟩

set_option maxRecDepth 100000 in
set_option maxHeartbeats 2000000 in
theorem l5Nums_any (v : Value) (l : List Int) (w : World) (h : Row w v l.length (flatI l)) (hn : l.length ≤ 1000) :
    Calls Tryd.prog 59 #[v] w fun e w' => Below w.heap.size w w' ∧ ∃ v', (okNums l ∧ e = .returned (.tuple #[v', .bool true]) ∧ OwnB w.heap.size w' v' (formsB l)) ∨ (¬ okNums l ∧ e = .returned (.tuple #[v', .bool false]) ∧ OwnB w.heap.size w' v' []) := by
  obtain ⟨a, b, off, cap, rfl, hcap, hmax, ha, hk⟩ := h.nums
  obtain ⟨i0, hi, hz0, hz1, hz2⟩ := info_parts Tryd.infoByte
  unfold maxLen at hmax
  have e0 : OwnB w.heap.size (w.alloc (.cells #[] 5)) (.slice (some ⟨w.heap.size, 0, none⟩) 0 0) [] := empty_own w w.heap.size 5 1 (Nat.le_refl _)
  have b0 : Below w.heap.size w (w.alloc (.cells #[] 5)) := (Below.refl _ _).alloc (Nat.le_refl _) _
  have E0 : Hid _ := And.intro e0 b0
  clear h e0 b0
  go_enter Tryd.func59, Tryd.ntmps59
  go_wp2
  go_loopw [4, 5] (fun o i wr => ∃ k : Nat, k ≤ l.length ∧ i = .int .i64 k ∧ okNums (l.take k) ∧ OwnB w.heap.size wr o (formsB (l.take k)) ∧ Below w.heap.size w wr)
    (fun _ i _ => l.length - (intOf i).toNat)
  case atStart => exact ⟨0, Nat.zero_le _, rfl, fun x hx => by simp at hx, by simpa [formsB] using E0.out.1, E0.out.2⟩
  case round =>
    obtain ⟨k, hkl, rfl, hok, hown, hb⟩ := hrel
    obtain ⟨av, cv, rfl, _, _⟩ := owns_shape hown
    have OW : Hid _ := And.intro hown (And.intro hok hb)
    clear hok
    by_cases hlt : k < l.length
    · have hal := ha (by omega)
      subst hal
      have d0 : wr.cell? ⟨b, off + k, none⟩ = some (.int .i64 (iAt l k)) := (hb.cell (by exact cell_lt (hk k hlt))).trans (hk k hlt)
      have FSu : Hid _ := formsB_succ l k hlt
      have OK1 : Hid _ := fun h => okNums_take (l := l) (k := k) OW.out.2.1 hlt h
      have OK2 : Hid _ := fun h => okNums_not (l := l) (k := k) hlt h
      have hDl : (formsB (l.take k)).length ≤ 5000 := by have := formsB_length (l.take k); simp at this; omega
      generalize iAt l k = x at *
      generalize formsB (l.take k) = D at *
      clear hk ha hown hb
      go_wp2_with fail
      refine (specPutNum_any x _).mono ?_
      rintro e w1 ⟨v1, rfl, o1, b1⟩
      have R1 : Row w1 v1 (putN x).length (flatB (putN x)) := Row.of_owns o1
      have hPl := putN_length x
      obtain ⟨a1, q1, rfl, _, hq1⟩ := owns_shape o1
      have B1 : Hid (Below w.heap.size w w1) := OW.out.2.2.trans (b1.mono OW.out.2.2.size)
      have O1 : Hid (OwnB w.heap.size w1 (.slice av D.length cv) D ∧ Row w1 (.slice a1 (putN x).length q1) (putN x).length (flatB (putN x))) := ⟨owns_below OW.out.1 b1, R1⟩
      clear o1 b1 R1
      by_cases hx : -2000000000 ≤ x ∧ x ≤ 2000000000
      · have hpos : 0 < (putN x).length := by
          rcases Nat.eq_zero_or_pos (putN x).length with h0 | h0
          · exact absurd hx (fun hx => by rw [putN_in hx.1 hx.2] at h0; have := sevens_pos 4 (codeN x); omega)
          · exact h0
        have N1 : Hid _ := OK1.out hx
        have BS := B1.out.size
        have HX : Hid _ := hx
        have HR : Hid _ := roomB (n := D.length) (m := (putN x).length) (by omega)
        have hne : (((putN x).length : Int) == 0) = false := by rw [beq_eq_false_iff_ne]; omega
        clear hx OK1 OK2
        generalize hp : putN x = P at *
        go_wp2_with (at_builtin; refine app_row w1 rfl _ _ 71 rfl w.heap.size 5 i0 _ 1 1 Tryd.underlying71 hi hz0 hz1 hz2 rfl (by decide) (.slice av D.length cv) D.length (flatB D) rfl O1.out.1 (.slice a1 P.length q1) P.length (flatB P) rfl O1.out.2 (by rw [flatB_length]; omega) (flatB_one _) HR.out.1 HR.out.2 BS ?_)
        intro v' w3 ho3 _ hb3
        have O3 : OwnB w.heap.size w3 v' (D ++ P) := by
          unfold OwnB; rw [flatB_append]; simpa using ho3
        have PP : Hid _ := And.intro O3 (B1.out.trans hb3)
        clear ho3 hb3 O3
        go_wp2
        go_roundw
        case rel => exact ⟨k + 1, by omega, by go_num, N1.out, by rw [FSu.out]; exact PP.out.1, PP.out.2⟩
        case measure => simp [intOf]; omega
      · have h0 : (putN x).length = 0 := by rw [putN_out hx]; rfl
        have NO : Hid _ := OK2.out hx
        have F0 : Hid (OwnB w.heap.size (w1.alloc (.cells #[] 5)) (.slice (some ⟨w1.heap.size, 0, none⟩) 0 0) [] ∧ Below w.heap.size w (w1.alloc (.cells #[] 5))) := ⟨empty_own w1 w.heap.size 5 1 B1.out.size, B1.out.alloc B1.out.size _⟩
        clear hx OK1 OK2
        generalize (putN x).length = L at *
        subst h0
        go_wp2
        refine bodyPost_ret (v := .tuple #[.slice (some ⟨w1.heap.size, 0, none⟩) 0 0, .bool false]) (by simp [results, Tryd.results59, go_sem]) rfl ⟨F0.out.2, _, .inr ⟨NO.out, rfl, F0.out.1⟩⟩
    · have hkk : k = l.length := by omega
      subst hkk
      rw [List.take_length] at OW ⊢
      have ho : Hid _ := OW.out
      clear OW hown hb
      go_wp2
      refine bodyPost_ret (v := .tuple #[.slice av (formsB l).length cv, .bool true]) (by simp [results, Tryd.results59, go_sem]) rfl ⟨ho.out.2.2, _, .inl ⟨ho.out.2.1, rfl, ho.out.1⟩⟩

end Go.Proofs.YtckphbmlmjlipaaDoor

namespace Go.Proofs.YtckphbmlmjlipaaDoor
open Go.RowKit

/-- THE STRUCT x LEADS TO THE TREE T, in rows of its own, all of them from the block `base` on. -/
def TreeOwn : Nat → World → Nat → TV → Tr → Prop
  | 0, _, _, _, _ => False
  | n + 1, w, base, x, T => x.lf = T.leaf ∧ w.ownsRow base 80 2 x.p T.pairs.length (flatP T.pairs) ∧ w.ownsRow base 3 1 x.c T.cuts.length (flatI T.cuts) ∧ w.ownsRow base 83 3 x.b T.buf.length (flatM T.buf) ∧
      ∃ xs : List TV, xs.length = T.kids.length ∧ w.ownsRow base 32 5 x.k xs.length (flatT xs) ∧ ∀ i, i < xs.length → TreeOwn n w base (tvAt xs i) (kidT T i)

theorem owns_same {w w' : World} {base e size n : Nat} {v : Value} {xs : List Value} (h : w.ownsRow base e size v n xs) (hb : ∀ g, base ≤ g → g < w.heap.size → w'.heap[g]? = w.heap[g]?) : w'.ownsRow base e size v n xs := by
  obtain ⟨hl, h | ⟨g, cap, cur, rfl, hg, hh, hn, hcap, hsz, htake⟩⟩ := h
  · exact ⟨hl, .inl h⟩
  · refine ⟨hl, .inr ⟨g, cap, cur, rfl, hg, ?_, hn, hcap, hsz, htake⟩⟩
    rw [hb g hg (Array.getElem?_eq_some_iff.1 hh).1]
    exact hh
theorem TreeOwn.same : ∀ {n : Nat} {w w' : World} {base : Nat} {x : TV} {T : Tr}, TreeOwn n w base x T → (∀ g, base ≤ g → g < w.heap.size → w'.heap[g]? = w.heap[g]?) → TreeOwn n w' base x T
  | 0, _, _, _, _, _, h, _ => h
  | _ + 1, _, _, _, _, _, ⟨h1, h2, h3, h4, xs, h5, h6, h7⟩, hb => ⟨h1, owns_same h2 hb, owns_same h3 hb, owns_same h4 hb, xs, h5, owns_same h6 hb, fun i hi => (h7 i hi).same hb⟩
theorem TreeOwn.below {n : Nat} {w w' : World} {base : Nat} {x : TV} {T : Tr} (h : TreeOwn n w base x T) (hb : Below w.heap.size w w') : TreeOwn n w' base x T :=
  h.same fun g _ hg => hb.block g hg
theorem TreeOwn.low : ∀ {n : Nat} {w : World} {base base' : Nat} {x : TV} {T : Tr}, TreeOwn n w base x T → base' ≤ base → TreeOwn n w base' x T
  | 0, _, _, _, _, _, h, _ => h
  | _ + 1, _, _, _, _, _, ⟨h1, h2, h3, h4, xs, h5, h6, h7⟩, hb => ⟨h1, owns_mono h2 hb, owns_mono h3 hb, owns_mono h4 hb, xs, h5, owns_mono h6 hb, fun i hi => (h7 i hi).low hb⟩
theorem TreeOwn.treeAt : ∀ {n : Nat} {w : World} {base : Nat} {x : TV} {T : Tr}, TreeOwn n w base x T → TreeAt n w x T
  | 0, _, _, _, _, h => h
  | _ + 1, _, _, _, _, ⟨h1, h2, h3, h4, xs, h5, h6, h7⟩ => ⟨h1, Row.of_owns h2, Row.of_owns h3, Row.of_owns h4, xs, h5, Row.of_owns h6, fun i hi => (h7 i hi).treeAt⟩
def TreesOwn (n : Nat) (w : World) (base : Nat) (v : Value) (ts : List Tr) : Prop :=
  ∃ xs : List TV, xs.length = ts.length ∧ w.ownsRow base 32 5 v xs.length (flatT xs) ∧ ∀ i, i < xs.length → TreeOwn n w base (tvAt xs i) (ts.getD i noTr)
theorem TreesOwn.below {n : Nat} {w w' : World} {base : Nat} {v : Value} {ts : List Tr} (h : TreesOwn n w base v ts) (hb : Below w.heap.size w w') : TreesOwn n w' base v ts := by
  obtain ⟨xs, h5, h6, h7⟩ := h
  exact ⟨xs, h5, owns_below h6 hb, fun i hi => (h7 i hi).below hb⟩
theorem TreesOwn.low {n : Nat} {w : World} {base base' : Nat} {v : Value} {ts : List Tr} (h : TreesOwn n w base v ts) (hb : base' ≤ base) : TreesOwn n w base' v ts := by
  obtain ⟨xs, h5, h6, h7⟩ := h
  exact ⟨xs, h5, owns_mono h6 hb, fun i hi => (h7 i hi).low hb⟩
theorem TreeOwn.mk {n : Nat} {w : World} {base : Nat} {x : TV} {T : Tr} (h1 : x.lf = T.leaf) (h2 : w.ownsRow base 80 2 x.p T.pairs.length (flatP T.pairs)) (h3 : w.ownsRow base 3 1 x.c T.cuts.length (flatI T.cuts)) (h4 : w.ownsRow base 83 3 x.b T.buf.length (flatM T.buf)) (h5 : TreesOwn n w base x.k T.kids) : TreeOwn (n + 1) w base x T := by
  obtain ⟨xs, h5, h6, h7⟩ := h5
  exact ⟨h1, h2, h3, h4, xs, h5, h6, h7⟩
theorem TreeOwn.parts {n : Nat} {w : World} {base : Nat} {x : TV} {T : Tr} (h : TreeOwn (n + 1) w base x T) : x.lf = T.leaf ∧ w.ownsRow base 80 2 x.p T.pairs.length (flatP T.pairs) ∧ w.ownsRow base 3 1 x.c T.cuts.length (flatI T.cuts) ∧ w.ownsRow base 83 3 x.b T.buf.length (flatM T.buf) ∧ TreesOwn n w base x.k T.kids := by
  obtain ⟨h1, h2, h3, h4, xs, h5, h6, h7⟩ := h
  exact ⟨h1, h2, h3, h4, xs, h5, h6, h7⟩

theorem Tryd.info3 : (Tryd.prog.info? 3).map (fun i => (i.zero, i.size, i.bytes)) = some (some (.int .i64 0), 1, 8) := by kernel_rfl
theorem Tryd.info32 : (Tryd.prog.info? 32).map (fun i => (i.zero, i.size, i.bytes)) = some (some (.agg #[.bool false, .slice none 0 0, .slice none 0 0, .slice none 0 0, .slice none 0 0]), 5, 104) := by kernel_rfl

def filledI (l : List Int) (k : Nat) : List Int := l.take k ++ List.replicate (l.length - k) 0
theorem filledI_length (l : List Int) (k : Nat) (hk : k ≤ l.length) : (filledI l k).length = l.length := by simp [filledI]; omega
theorem filledI_full (l : List Int) : filledI l l.length = l := by simp [filledI]
theorem filledI_step (l : List Int) (k : Nat) (hk : k < l.length) : (filledI l k).set k (iAt l k) = filledI l (k + 1) := by
  obtain ⟨m, hm⟩ : ∃ m, l.length - k = m + 1 := ⟨l.length - k - 1, by omega⟩
  have e : iAt l k = l[k] := by simp [iAt, List.getD, hk]
  rw [filledI, filledI, List.take_succ_eq_append_getElem hk, hm, show l.length - (k + 1) = m by omega, List.replicate_succ, List.set_append_right _ _ (by simp; omega), e, List.append_assoc]
  simp only [List.length_take, show min k l.length = k by omega, Nat.sub_self, List.set_cons_zero, List.singleton_append]
theorem flatI_set (l : List Int) (i : Nat) (x : Int) : (flatI l).set i (.int .i64 x) = flatI (l.set i x) := by simp [flatI, List.map_set]

theorem tvAt_set_eq (l : List TV) (y : TV) (k : Nat) (hk : k < l.length) : tvAt (l.set k y) k = y := by simp [tvAt, List.getD, hk]
theorem tvAt_set_ne (l : List TV) (y : TV) (k i : Nat) (h : k ≠ i) : tvAt (l.set k y) i = tvAt l i := by simp [tvAt, List.getD, h]
theorem flatT_zero (n : Nat) (i : Nat) : (flatT (List.replicate n noTV))[i]? = (if i < n * 5 then some (if i % 5 = 0 then .bool false else .slice none 0 0) else none) := by
  induction n generalizing i with
  | zero => simp [flatT]
  | succ n ih =>
    rw [List.replicate_succ, flatT_cons]
    match i with
    | 0 => simp [noTV]
    | 1 => simp [noTV]; omega
    | 2 => simp [noTV]; omega
    | 3 => simp [noTV]; omega
    | 4 => simp [noTV]; omega
    | i + 5 =>
      simp only [List.getElem?_cons_succ]
      rw [ih i, show (i + 5) % 5 = i % 5 by omega]
      by_cases h : i < n * 5
      · rw [if_pos h, if_pos (show i + 5 < (n + 1) * 5 by omega)]
      · rw [if_neg h, if_neg (show ¬ i + 5 < (n + 1) * 5 by omega)]
theorem madeCells_tree (n : Nat) : (madeCells #[.bool false, .slice none 0 0, .slice none 0 0, .slice none 0 0, .slice none 0 0] (n * 5)).toList = flatT (List.replicate n noTV) := by
  apply List.ext_getElem?
  intro j
  rw [flatT_zero]
  by_cases hj : j < n * 5
  · rw [if_pos hj]
    simp only [madeCells]
    have : j % 5 = 0 ∨ j % 5 = 1 ∨ j % 5 = 2 ∨ j % 5 = 3 ∨ j % 5 = 4 := by omega
    rcases this with h | h | h | h | h <;> simp [hj, h]
  · rw [if_neg hj]
    simp [madeCells, hj]

end Go.Proofs.YtckphbmlmjlipaaDoor

namespace Go.Proofs.YtckphbmlmjlipaaDoor
open Go.RowKit

theorem TreeOwn.setCell {n : Nat} {w : World} {base : Nat} {x : TV} {T : Tr} (h : TreeOwn n w base x T) {a : Addr} (ha : a.block < base) (u : Value) : TreeOwn n (w.setCell a u) base x T :=
  h.same fun g hg _ => Below.heap_setCell _ _ _ _ (by omega)

/-- A TREE'S STRUCT HAS FOUR SLICES. -/
theorem TreeAt.shape : ∀ {n : Nat} {w : World} {x : TV} {T : Tr}, TreeAt n w x T → ∃ (a1 a2 a3 a4 : Option Addr) (c1 c2 c3 c4 : Nat), x = ⟨T.leaf, .slice a1 T.pairs.length c1, .slice a2 T.cuts.length c2, .slice a3 T.kids.length c3, .slice a4 T.buf.length c4⟩
  | 0, _, _, _, h => h.elim
  | _ + 1, _, ⟨lf, p, c, k, b⟩, T, ⟨h1, h2, h3, h4, xs, h5, h6, h7⟩ => by
    simp only at h1 h2 h3 h4 h6
    obtain ⟨a1, c1, rfl, _⟩ := h2.len
    obtain ⟨a2, c2, rfl, _⟩ := h3.len
    obtain ⟨a4, c4, rfl, _⟩ := h4.len
    obtain ⟨a3, c3, rfl, _⟩ := h6.len
    subst h1
    exact ⟨a1, a2, a3, a4, c1, c2, c3, c4, by rw [h5]⟩

theorem TreesOwn.slice {n : Nat} {w : World} {base : Nat} {v : Value} {ts : List Tr} (h : TreesOwn n w base v ts) : ∃ (a : Option Addr) (m q : Nat), v = .slice a m q := by
  obtain ⟨xs, _, h6, _⟩ := h
  obtain ⟨a, q, e, _⟩ := (Row.of_owns h6).len
  exact ⟨a, _, q, e⟩
theorem TreesOwn.setCell {n : Nat} {w : World} {base : Nat} {v : Value} {ts : List Tr} (h : TreesOwn n w base v ts) {a : Addr} (ha : a.block < base) (u : Value) : TreesOwn n (w.setCell a u) base v ts := by
  obtain ⟨xs, h5, h6, h7⟩ := h
  exact ⟨xs, h5, ownsRow_setCell_below h6 ha u, fun i hi => (h7 i hi).setCell ha u⟩

end Go.Proofs.YtckphbmlmjlipaaDoor

namespace Go.Proofs.YtckphbmlmjlipaaDoor
open Go.RowKit

/-- A BOX. -/
def BoxAt (t : TypeId) (u : World) (B : Nat) (A : Array Value) : Prop := u.heap[B]? = some (.cells A t (0, 0))
theorem BoxAt.step {t : TypeId} {u w' : World} {B : Nat} {A : Array Value} (h : BoxAt t u B A) (hb : Below u.heap.size u w') : BoxAt t w' B A :=
  (hb.block _ (Array.getElem?_eq_some_iff.1 h).1).trans h
theorem BoxAt.cells {t : TypeId} {u : World} {B : Nat} {A : Array Value} (h : BoxAt t u B A) : ∀ j, u.cell? ⟨B, j, none⟩ = A[j]? := fun j => cell_of_row u B j A t (0, 0) h
theorem BoxAt.start (t : TypeId) (w : World) (A : Array Value) : BoxAt t (w.alloc (.cells A t)) w.heap.size A := heap_alloc_new w _
theorem bel_new (w : World) (o : Obj) : Below w.heap.size w (w.alloc o) := (Below.refl _ _).alloc (Nat.le_refl _) _

/-- what kind a tree is of -/
def kindN (T : Tr) : Int := if T.leaf = true then (if T.cuts.length = 0 ∧ T.kids.length = 0 ∧ T.buf.length = 0 then 1 else 0) else (if T.pairs.length = 0 then 2 else 0)
theorem kindN_leaf {T : Tr} (h : T.leaf = true) (hb : T.cuts.length = 0 ∧ T.kids.length = 0 ∧ T.buf.length = 0) : kindN T = 1 := by rw [kindN, if_pos h, if_pos hb]
theorem kindN_leaf_no {T : Tr} (h : T.leaf = true) (hb : ¬ (T.cuts.length = 0 ∧ T.kids.length = 0 ∧ T.buf.length = 0)) : kindN T = 0 := by rw [kindN, if_pos h, if_neg hb]
theorem kindN_fork {T : Tr} (h : T.leaf = false) (hb : T.pairs.length = 0) : kindN T = 2 := by rw [kindN, if_neg (by rw [h]; decide), if_pos hb]
theorem kindN_fork_no {T : Tr} (h : T.leaf = false) (hb : ¬ T.pairs.length = 0) : kindN T = 0 := by rw [kindN, if_neg (by rw [h]; decide), if_neg hb]

set_option maxHeartbeats 1000000 in
theorem kindOf_any (n : Nat) (x : TV) (T : Tr) (w : World) (ht : TreeAt n w x T) :
    Calls Tryd.prog 65 #[x.val] w fun e w' => e = .returned (.int .i64 (kindN T)) ∧ Below w.heap.size w w' := by
  obtain ⟨a1, a2, a3, a4, q1, q2, q3, q4, rfl⟩ := ht.shape
  show Calls Tryd.prog 65 #[.agg #[.bool T.leaf, .slice a1 T.pairs.length q1, .slice a2 T.cuts.length q2, .slice a3 T.kids.length q3, .slice a4 T.buf.length q4]] w _
  have K1 : Hid (T.leaf = true → (T.cuts.length = 0 ∧ T.kids.length = 0 ∧ T.buf.length = 0) → kindN T = 1) := kindN_leaf
  have K2 : Hid (T.leaf = true → ¬ (T.cuts.length = 0 ∧ T.kids.length = 0 ∧ T.buf.length = 0) → kindN T = 0) := kindN_leaf_no
  have K3 : Hid (T.leaf = false → T.pairs.length = 0 → kindN T = 2) := kindN_fork
  have K4 : Hid (T.leaf = false → ¬ T.pairs.length = 0 → kindN T = 0) := kindN_fork_no
  clear ht
  generalize kindN T = R at *
  generalize T.pairs.length = n1 at *
  generalize T.cuts.length = n2 at *
  generalize T.kids.length = n3 at *
  generalize T.buf.length = n4 at *
  cases hlf : T.leaf
  · cases h1 : ((n1 : Int) == 0)
    · have E := K4.out hlf (by rw [beq_eq_false_iff_ne] at h1; omega)
      subst E
      cases h2 : ((n2 : Int) == 0) <;> cases h3 : ((n3 : Int) == 0) <;> cases h4 : ((n4 : Int) == 0)
      all_goals
        go_enter Tryd.func65, Tryd.ntmps65
        go_wp2
        go_ret
        exact ⟨rfl, bel_new _ _⟩
    · have E := K3.out hlf (by rw [beq_iff_eq] at h1; omega)
      subst E
      cases h2 : ((n2 : Int) == 0) <;> cases h3 : ((n3 : Int) == 0) <;> cases h4 : ((n4 : Int) == 0)
      all_goals
        go_enter Tryd.func65, Tryd.ntmps65
        go_wp2
        go_ret
        exact ⟨rfl, bel_new _ _⟩
  · cases h2 : ((n2 : Int) == 0)
    · have E := K2.out hlf (by rw [beq_eq_false_iff_ne] at h2; omega)
      subst E
      cases h3 : ((n3 : Int) == 0) <;> cases h4 : ((n4 : Int) == 0)
      all_goals
        go_enter Tryd.func65, Tryd.ntmps65
        go_wp2
        go_ret
        exact ⟨rfl, bel_new _ _⟩
    · cases h3 : ((n3 : Int) == 0)
      · have E := K2.out hlf (by rw [beq_eq_false_iff_ne] at h3; omega)
        subst E
        cases h4 : ((n4 : Int) == 0)
        all_goals
          go_enter Tryd.func65, Tryd.ntmps65
          go_wp2
          go_ret
          exact ⟨rfl, bel_new _ _⟩
      · cases h4 : ((n4 : Int) == 0)
        · have E := K2.out hlf (by rw [beq_eq_false_iff_ne] at h4; omega)
          subst E
          go_enter Tryd.func65, Tryd.ntmps65
          go_wp2
          go_ret
          exact ⟨rfl, bel_new _ _⟩
        · have E := K1.out hlf (by rw [beq_iff_eq] at h2 h3 h4; omega)
          subst E
          go_enter Tryd.func65, Tryd.ntmps65
          go_wp2
          go_ret
          exact ⟨rfl, bel_new _ _⟩

/-- THE VALUES OF A PLACE, AND OF A TREE AT ITS PLACE. -/
abbrev placeV (kd lo hi ab : Int) : Value := .agg #[.int .i64 kd, .int .i64 lo, .int .i64 hi, .int .i64 ab]
abbrev placedV (kd lo hi ab : Int) (x : TV) : Value := .agg #[.int .i64 kd, .int .i64 lo, .int .i64 hi, .int .i64 ab, .bool x.lf, x.p, x.c, x.k, x.b]

end Go.Proofs.YtckphbmlmjlipaaDoor

namespace Go.Proofs.YtckphbmlmjlipaaDoor
open Go.RowKit

/-- the blocks that an append to v may write -/
def wrB (v : Value) (g : Nat) : Prop := ∃ n cap, v = .slice (some ⟨g, 0, none⟩) n cap ∧ 0 < cap
/-- A ROW OF ONE'S OWN, or one that is empty and has no room. -/
def OwnE (w : World) (base e size : Nat) (v : Value) (n : Nat) (xs : List Value) : Prop :=
  w.ownsRow base e size v n xs ∨ (n = 0 ∧ xs = [] ∧ ∃ g, v = .slice (some ⟨g, 0, none⟩) 0 0)

theorem OwnE.slice {w : World} {base e size n : Nat} {v : Value} {xs : List Value} (h : OwnE w base e size v n xs) : ∃ (a : Option Addr) (cap : Nat), v = .slice a n cap := by
  rcases h with h | ⟨rfl, _, g, rfl⟩
  · obtain ⟨a, cap, h, _⟩ := (Row.of_owns h).len
    exact ⟨a, cap, h⟩
  · exact ⟨_, _, rfl⟩
theorem OwnE.lt {w : World} {base e size n : Nat} {v : Value} {xs : List Value} (h : OwnE w base e size v n xs) : ∀ g, wrB v g → base ≤ g ∧ g < w.heap.size := by
  rintro g ⟨k, cap, rfl, hc⟩
  rcases h with h | ⟨_, _, g', hg⟩
  · exact h.lt g rfl
  · simp at hg; omega
theorem OwnE.chg {P : Nat → Prop} {w w' : World} {base e size n : Nat} {v : Value} {xs : List Value} (h : OwnE w base e size v n xs) (hc : Chg P w w') (hP : ∀ g, wrB v g → ¬ P g) : OwnE w' base e size v n xs := by
  rcases h with h | h
  · have h0 := h
    obtain ⟨hl, h | ⟨g, cap, cur, rfl, hg, hh, hn, hcap, hsz, htake⟩⟩ := h
    · exact .inl ⟨hl, .inl h⟩
    · rcases Nat.eq_zero_or_pos cap with h1 | h1
      · subst h1
        have : n = 0 := by omega
        subst this
        exact .inr ⟨rfl, List.length_eq_zero_iff.1 (by omega), g, rfl⟩
      · exact .inl (owns_chg h0 hc fun g' hg' => hP g' ⟨n, cap, by simp [Value.ownBlock] at hg'; rw [hg'], h1⟩)
  · exact .inr h
theorem OwnE.below {w w' : World} {base e size n : Nat} {v : Value} {xs : List Value} (h : OwnE w base e size v n xs) (hb : Below w.heap.size w w') : OwnE w' base e size v n xs :=
  h.chg (Chg.of_below (F := fun _ => False) hb) (fun _ _ h => h)
theorem OwnE.mono {w : World} {base base' e size n : Nat} {v : Value} {xs : List Value} (h : OwnE w base e size v n xs) (hb : base' ≤ base) : OwnE w base' e size v n xs := h.imp (fun h => owns_mono h hb) id
theorem OwnE.nil (w : World) (base e size : Nat) : OwnE w base e size (.slice none 0 0) 0 [] := .inl (World.ownsRow_nil w base e size)
theorem OwnE.zero (w : World) (base e size g : Nat) : OwnE w base e size (.slice (some ⟨g, 0, none⟩) 0 0) 0 [] := .inr ⟨rfl, rfl, g, rfl⟩
theorem wrB_nil (g : Nat) : ¬ wrB (.slice none 0 0) g := fun ⟨_, _, h, _⟩ => by simp at h
theorem wrB_zero (b g : Nat) : ¬ wrB (.slice (some ⟨b, 0, none⟩) 0 0) g := fun ⟨_, _, h, h2⟩ => by simp at h; omega

/-- what an append leaves -/
def AppTo (W : World) (base e size : Nat) (v : Value) (n : Nat) (xs : List Value) (v' : Value) (w' : World) : Prop :=
  OwnE w' base e size v' n xs ∧ Chg (wrB v) W w' ∧ Below base W w' ∧ ∀ g, wrB v' g → wrB v g ∨ W.heap.size ≤ g

theorem run_append_E {P : Program} (W : World) (t ty : TypeId) (base : Nat) (e : TypeId) (i : TypeInfo) (z : Value) (size bytes : Nat) (ht : P.underlying t = some (.slice e)) (hi : P.info? e = some i) (hz : i.zero = some z)
    (hsize : i.size = size) (hby : i.bytes = bytes) (hzs : z.cells.size = size) (hsz : 0 < size)
    (v : Value) (n : Nat) (xs : List Value) (hown : OwnE W base e size v n xs)
    (u : Value) (m : Nat) (news : List Value) (hr : Row W u m news) (hl : news.length = m * size) (h1 : ∀ y ∈ news, y.oneCell' = true)
    (h63 : n + m ≤ maxLen) (hbytes : (n + m) * bytes ≤ 140737488355328) (hbase : base ≤ W.heap.size) :
    ∃ v' w', (Builtin.append_ #[t, t] ty #[v, u]).run P W = .ok v' w' ∧ AppTo W base e size v (n + m) (xs ++ news) v' w' := by
  obtain ⟨sa, b, off, cap, rfl, hle, hmx, hsa, hcell, hnil⟩ := hr
  have hnews : ∀ ad, sa = some ad → ∀ j y, news[j]? = some y → W.cell? (ad.add j) = some y := by
    intro ad had j y hj
    have hjl := (List.getElem?_eq_some_iff.1 hj).1
    have hm : 0 < m := by
      rcases Nat.eq_zero_or_pos m with h0 | h0
      · subst h0; omega
      · exact h0
    have := hsa hm
    rw [had] at this
    simp only [Option.some.injEq] at this
    subst this
    rw [Go.WideShapes.add_plain]
    exact hcell j y hj
  have key : ∀ (v' : Value) (w' : World), w'.ownsRow base e size v' (n + m) (xs ++ news) → W.grownBy w' v.ownBlock → (v'.ownBlock = v.ownBlock ∨ v'.ownBlock = some W.heap.size) → W.ownsRow base e size v n xs →
      ((∀ g c, v = .slice (some ⟨g, 0, none⟩) n c → c = 0 → v' = v ∧ w' = W ∨ Below W.heap.size W w' ∧ v'.ownBlock = some W.heap.size)) →
      (∀ g c c', v = .slice (some ⟨g, 0, none⟩) n c → v' = .slice (some ⟨g, 0, none⟩) (n + m) c' → g < W.heap.size) →
      AppTo W base e size v (n + m) (xs ++ news) v' w' := by
    intro v' w' h2 h3 h4 hv hz0 hlt
    obtain ⟨_, ⟨rfl, rfl⟩ | ⟨g, c, cur, rfl, hg, hh, hn, hcap, hs, htk⟩⟩ := hv
    · have hb : Below W.heap.size W w' := by
        have hc := chg_of_grown h3
        exact hc.below (fun g _ hg => by simp [Value.ownBlock] at hg) (Nat.le_refl _)
      refine ⟨.inl h2, Chg.of_below hb, hb.mono hbase, fun g' hg' => ?_⟩
      obtain ⟨k, c', rfl, hc'⟩ := hg'
      rcases h4 with h4 | h4
      · simp [Value.ownBlock] at h4
      · simp [Value.ownBlock] at h4; right; omega
    · rcases Nat.eq_zero_or_pos c with hc0 | hc0
      · rcases hz0 g c rfl hc0 with ⟨rfl, rfl⟩ | ⟨hb, ho⟩
        · exact ⟨.inl h2, Chg.refl _ _, Below.refl _ _, fun g' hg' => .inl hg'⟩
        · refine ⟨.inl h2, Chg.of_below hb, hb.mono hbase, fun g' hg' => ?_⟩
          obtain ⟨k, c', rfl, hc'⟩ := hg'
          simp [Value.ownBlock] at ho
          right; omega
      · have hc := chg_of_grown h3
        have hc' : Chg (wrB (.slice (some ⟨g, 0, none⟩) n c)) W w' := hc.mono fun g' _ hg' => by
          simp [Value.ownBlock] at hg'
          subst hg'
          exact ⟨n, c, rfl, hc0⟩
        refine ⟨.inl h2, hc', hc'.below (fun g' _ hg' => ?_) hbase, fun g' hg' => ?_⟩
        · obtain ⟨_, _, hg', _⟩ := hg'
          simp at hg'
          omega
        · obtain ⟨k, c2, rfl, hc2⟩ := hg'
          rcases h4 with h4 | h4
          · simp [Value.ownBlock] at h4
            subst h4
            exact .inl ⟨n, c, rfl, hc0⟩
          · simp [Value.ownBlock] at h4; right; omega
  by_cases hm : m = 0
  · subst hm
    have hn0 : news = [] := List.length_eq_zero_iff.1 (by omega)
    subst hn0
    rw [List.append_nil, Nat.add_zero]
    have hv : ∃ a c, v = .slice a n c ∧ n ≤ c ∧ (a = none → c = 0 ∧ n = 0) := by
      rcases hown with h | ⟨rfl, _, g, rfl⟩
      · obtain ⟨a, b', off', c, h1, h2, _, h4, _, h6⟩ := Row.of_owns h
        exact ⟨a, c, h1, h2, fun h => ⟨h6 h, by have := h6 h; omega⟩⟩
      · exact ⟨_, 0, rfl, Nat.le_refl _, fun h => by cases h⟩
    obtain ⟨a, c, rfl, hnc, hnn⟩ := hv
    refine ⟨.slice a n c, W, ?_, hown, Chg.refl _ _, Below.refl _ _, fun g hg => .inl hg⟩
    have e : (cap = 0 ∨ sa ≠ none) := by
      cases sa with
      | none => exact .inl (hnil rfl)
      | some ad => exact .inr (by simp)
    cases a with
    | none =>
      obtain ⟨rfl, rfl⟩ := hnn rfl
      cases sa <;> simp [Builtin.append_, run_underlying ht, sizeOf, typeInfo, hi, Builtin.lenOf, Builtin.firstCells, loadCells, loadCellsFrom]
    | some ad =>
      cases sa <;> simp [Builtin.append_, run_underlying ht, sizeOf, typeInfo, hi, Builtin.lenOf, Builtin.firstCells, loadCells, loadCellsFrom, hnc, storeCells]
  · have hm' : 0 < m := by omega
    have hsa' := hsa hm'
    subst hsa'
    rcases hown with hown | ⟨rfl, rfl, g, rfl⟩
    · obtain ⟨v', w', hr, h2, h3, h4, h5⟩ := run_append_own_at (P := P) W base t ty e i z size bytes ht hi hz hsize hby hzs hsz v n xs hown ⟨b, off, none⟩ m cap news hl (hnews _ rfl) h1 h63 hbytes hbase
      refine ⟨v', w', hr, key v' w' h2 h3 h5 hown (fun g c hv hc => ?_) (fun g c c' hv _ => ?_)⟩
      · right
        subst hv
        subst hc
        have hn0 : n = 0 := by
          obtain ⟨_, ⟨h, _⟩ | ⟨g', c', cur, h, hg, hh, hn, hcap, hs, htk⟩⟩ := hown
          · simp at h
          · simp at h; omega
        subst hn0
        have hx : xs = [] := List.length_eq_zero_iff.1 (by have := hown.1; omega)
        subst hx
        subst hsize
        subst hby
        have hg2 := run_append_grow (P := P) W t ty e i z ht hi hz ⟨g, 0, none⟩ 0 0 [] (by simp) (by intro j y hj; simp at hj) ⟨b, off, none⟩ m cap news hl (hnews _ rfl) (by omega) (by simp only [maxLen] at h63; omega) (growslice_fits (by omega) hbytes)
        rw [hg2] at hr
        simp only [Result.ok.injEq] at hr
        obtain ⟨rfl, rfl⟩ := hr
        exact ⟨((Below.refl _ _).drew).alloc (Nat.le_refl _) _, rfl⟩
      · subst hv
        exact (hown.lt g rfl).2
    · subst hsize
      subst hby
      have hg2 := run_append_grow (P := P) W t ty e i z ht hi hz ⟨g, 0, none⟩ 0 0 [] (by simp) (by intro j y hj; simp at hj) ⟨b, off, none⟩ m cap news hl (hnews _ rfl) (by omega) (by simp only [maxLen] at h63; omega) (growslice_fits (by omega) hbytes)
      obtain ⟨v', w', hr, h2, h3, h4, h5⟩ := run_append_own_at (P := P) W base t ty e i z i.size i.bytes ht hi hz rfl rfl hzs hsz (.slice none 0 0) 0 [] (World.ownsRow_nil W base e i.size) ⟨b, off, none⟩ m cap news hl (hnews _ rfl) h1 h63 hbytes hbase
      have hg3 := run_append_nil (P := P) W t ty e i z ht hi hz ⟨b, off, none⟩ m cap news hl (hnews _ rfl) hm' (by simp only [maxLen] at h63; omega) (by have hb := hbytes; simp only [Nat.zero_add] at hb; omega)
      rw [hg3] at hr
      simp only [Result.ok.injEq] at hr
      obtain ⟨rfl, rfl⟩ := hr
      have hb : Below W.heap.size W (W.drew.alloc (.cells (news.toArray ++ Builtin.zeroCells z.cells (grownCap W m 0 e - m)) e)) := ((Below.refl _ _).drew).alloc (Nat.le_refl _) _
      refine ⟨_, _, hg2, ?_⟩
      have e1 : ([] : List Value).toArray ++ news.toArray = news.toArray := by simp
      rw [e1, Nat.zero_add, List.nil_append]
      rw [Nat.zero_add, List.nil_append] at h2
      refine ⟨.inl h2, Chg.of_below hb, hb.mono hbase, fun g' hg' => ?_⟩
      obtain ⟨k, c', hk, _⟩ := hg'
      simp at hk
      right; omega

theorem wp_appE {P : Program} {o : Oper} {a : Act} {K : Act → World → Prop} {Q : Exit → Act → World → Prop} (W : World) (s x : Operand) (t : TypeId)
    (ho : o.op = .call { callee := .builtin .append, args := #[s, x], argTypes := #[t, t] })
    (base : Nat) (e : TypeId) (i : TypeInfo) (z : Value) (size bytes : Nat) (ht : P.underlying t = some (.slice e)) (hi : P.info? e = some i) (hz : i.zero = some z)
    (hsize : i.size = size) (hby : i.bytes = bytes) (hzs : z.cells.size = size) (hsz : 0 < size)
    (v : Value) (n : Nat) (xs : List Value) (hs : a.eval s = v) (hown : OwnE W base e size v n xs)
    (u : Value) (m : Nat) (news : List Value) (hx : a.eval x = u) (hr : Row W u m news) (hl : news.length = m * size) (h1 : ∀ y ∈ news, y.oneCell' = true)
    (h63 : n + m ≤ maxLen) (hbytes : (n + m) * bytes ≤ 140737488355328) (hbase : base ≤ W.heap.size)
    (h : ∀ v' w', AppTo W base e size v (n + m) (xs ++ news) v' w' → K (a.put o.dst v') w') : o.wp P a W K Q := by
  obtain ⟨v', w', hrun, h2⟩ := run_append_E (P := P) W t o.type base e i z size bytes ht hi hz hsize hby hzs hsz v n xs hown u m news hr hl h1 h63 hbytes hbase
  unfold Oper.wp
  simp [execOp, ho, resolve, invoke, builtin, hs, hx, hrun, Result.andThen]
  exact h v' w' h2
theorem step_appE {P : Program} {ops : Array Oper} {o : Oper} {a : Act} {K : Act → World → Prop} {Q : Exit → Act → World → Prop} {E : Prop} (W : World) (hgd : o.guard = none) (s x : Operand) (t : TypeId)
    (ho : o.op = .call { callee := .builtin .append, args := #[s, x], argTypes := #[t, t] })
    (base : Nat) (e : TypeId) (i : TypeInfo) (z : Value) (size bytes : Nat) (ht : P.underlying t = some (.slice e)) (hi : P.info? e = some i) (hz : i.zero = some z)
    (hsize : i.size = size) (hby : i.bytes = bytes) (hzs : z.cells.size = size) (hsz : 0 < size)
    (v : Value) (n : Nat) (xs : List Value) (hs : a.eval s = v) (hown : OwnE W base e size v n xs)
    (u : Value) (m : Nat) (news : List Value) (hx : a.eval x = u) (hr : Row W u m news) (hl : news.length = m * size) (h1 : ∀ y ∈ news, y.oneCell' = true)
    (h63 : n + m ≤ maxLen) (hbytes : (n + m) * bytes ≤ 140737488355328) (hbase : base ≤ W.heap.size)
    (h : ∀ v' w', AppTo W base e size v (n + m) (xs ++ news) v' w' → K (a.put o.dst v') w') :
    if Region.wanted o (yielded ops a.tmps) = true then Oper.wp P o a W K Q else E := by
  have hw : Region.wanted o (yielded ops a.tmps) = true := by simp [Region.wanted, hgd]
  rw [if_pos hw]
  exact wp_appE W s x t ho base e i z size bytes ht hi hz hsize hby hzs hsz v n xs hs hown u m news hx hr hl h1 h63 hbytes hbase h
theorem list_appE {P : Program} {ops : Array Oper} {rest : List Oper} {o : Oper} {a : Act} {Q : Exit → Act → World → Prop} (W : World) (hgd : o.guard = none) (s x : Operand) (t : TypeId)
    (ho : o.op = .call { callee := .builtin .append, args := #[s, x], argTypes := #[t, t] })
    (base : Nat) (e : TypeId) (i : TypeInfo) (z : Value) (size bytes : Nat) (ht : P.underlying t = some (.slice e)) (hi : P.info? e = some i) (hz : i.zero = some z)
    (hsize : i.size = size) (hby : i.bytes = bytes) (hzs : z.cells.size = size) (hsz : 0 < size)
    (v : Value) (n : Nat) (xs : List Value) (hs : a.eval s = v) (hown : OwnE W base e size v n xs)
    (u : Value) (m : Nat) (news : List Value) (hx : a.eval x = u) (hr : Row W u m news) (hl : news.length = m * size) (h1 : ∀ y ∈ news, y.oneCell' = true)
    (h63 : n + m ≤ maxLen) (hbytes : (n + m) * bytes ≤ 140737488355328) (hbase : base ≤ W.heap.size)
    (h : ∀ v' w', AppTo W base e size v (n + m) (xs ++ news) v' w' → wpList P ops Q rest (a.put o.dst v') w') :
    wpList P ops Q (o :: rest) a W :=
  wpList_plain hgd fun _ hK => wp_appE W s x t ho base e i z size bytes ht hi hz hsize hby hzs hsz v n xs hs hown u m news hx hr hl h1 h63 hbytes hbase fun v' w' h2 => hK _ _ (h v' w' h2)

theorem Row.laid (W : World) (xs : List Value) (e B : Nat) (hB : B = W.heap.size) : Row (W.alloc (.cells xs.toArray e)) (.slice (some ⟨B, 0, none⟩) 1 1) 1 xs := by
  subst hB
  refine ⟨_, W.heap.size, 0, 1, rfl, Nat.le_refl _, by decide, fun _ => rfl, fun j u hj => ?_, fun h => by cases h⟩
  rw [Nat.zero_add, cell_of_cells (heap_alloc_new W _)]
  simpa using hj

end Go.Proofs.YtckphbmlmjlipaaDoor

namespace Go.Proofs.YtckphbmlmjlipaaDoor
open Go.RowKit

theorem demand_yes {b : Bool} (hb : b = true) (w : World) : Calls Tryd.prog 24 #[.bool b] w fun e w' => e = .returned (.tuple #[]) ∧ w = w' := by rw [hb]; exact demand_true w
theorem demand_no {b : Bool} (hb : b = false) (ea : Addr) (w : World) (h : ErrIs ea w) : Calls Tryd.prog 24 #[.bool b] w fun e w' => e = .panicked (boom ea) ∧ w = w' := by rw [hb]; exact demand_false ea w h
theorem Row.laidN (W : World) (xs : List Value) (e n : Nat) (_hn : xs.length = n) (h : n ≤ maxLen) : Row (W.alloc (.cells xs.toArray e)) (.slice (some ⟨W.heap.size, 0, none⟩) n n) n xs := by
  refine ⟨some ⟨W.heap.size, 0, none⟩, W.heap.size, 0, n, rfl, Nat.le_refl _, h, fun _ => rfl, fun j u hj => ?_, fun h => by cases h⟩
  rw [Nat.zero_add, cell_of_cells (heap_alloc_new W _)]
  simpa using hj
theorem OwnI.laid (W : World) (l : List Int) (base : Nat) (hb : base ≤ W.heap.size) (hl : l.length ≤ 1000) : OwnI base (W.alloc (.cells (flatI l).toArray 3)) (.slice (some ⟨W.heap.size, 0, none⟩) l.length l.length) l :=
  ⟨by simp [flatI], .inr ⟨W.heap.size, l.length, (flatI l).toArray, rfl, hb, heap_alloc_new W _, Nat.le_refl _, by unfold maxLen; omega, by simp [flatI], by rw [Nat.mul_one, List.toList_toArray, ← flatI_length l, List.take_length]⟩⟩
theorem OwnI.below {base : Nat} {w w' : World} {v : Value} {l : List Int} (h : OwnI base w v l) (hb : Below w.heap.size w w') : OwnI base w' v l := owns_below h hb
theorem OwnI.app {base : Nat} {w : World} {v : Value} {l m : List Int} (h : w.ownsRow base 3 1 v (l.length + m.length) (flatI l ++ flatI m)) : OwnI base w v (l ++ m) := by
  unfold OwnI; rw [flatI_append]; simpa using h
theorem roomI {n m : Nat} (h : n + m ≤ 100000) : n + m ≤ maxLen ∧ (n + m) * 8 ≤ 140737488355328 := ⟨by unfold maxLen; omega, by omega⟩

/-- when the program's numsOfFork goes through -/
def forkOk (T : Tr) (ks : List Int) : Prop := 1 ≤ ks.length ∧ ks.length ≤ 4 ∧ T.cuts.length + 1 = ks.length ∧ T.buf.length ≤ 6

theorem Below.box {B : Nat} {W wr : World} {A : Array Value} {t : TypeId} (h : BoxAt t W B A) (hB : B < W.heap.size) (hb : Below W.heap.size W wr) : BoxAt t wr B A := (hb.block B hB).trans h

end Go.Proofs.YtckphbmlmjlipaaDoor
