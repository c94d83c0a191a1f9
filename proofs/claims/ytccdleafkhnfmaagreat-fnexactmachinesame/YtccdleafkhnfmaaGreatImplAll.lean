/-
  The contracts of the program's MapAll and MapDo.
-/
import Derived.Test.YtccdleafkhnfmaaGreatImplList
namespace Go.Proofs.YtccdleafkhnfmaaGreat
open Go.RowKit

theorem allL_ok {l : PL} (h : MapP l) (ms : ML) : allL l ms = (okMs ms).foldl doP l := by
  induction ms generalizing l with
  | nil => rfl
  | cons m ms ih =>
    have hM : mapOkB l = true := (mapOkB_iff l).2 h
    obtain ⟨o, k, v⟩ := m
    cases hq : msgOkB o k v
    · rw [allL, List.foldl_cons, doL_bad (Or.inr hq), okMs, List.filter_cons_of_neg (by simp [okM, hq])]
      exact ih h
    · rw [allL, List.foldl_cons, doL_ok hM hq, okMs, List.filter_cons_of_pos (by simp [okM, hq]), List.foldl_cons]
      exact ih (doP_mapP h hq)
theorem foldP_mapP {l : PL} (h : MapP l) (ms : ML) (hm : ∀ m ∈ ms, okM m = true) : MapP (ms.foldl doP l) := by
  induction ms generalizing l with
  | nil => exact h
  | cons m ms ih => exact ih (doP_mapP h (hm m (by simp))) (fun q hq => hm q (by simp [hq]))
theorem asc_length (l : PL) (h : Asc l) (a : Int) (ha : ∀ p ∈ l, a ≤ p.1 ∧ p.1 ≤ 999) (ha2 : a ≤ 1000) : (l.length : Int) ≤ 1000 - a := by
  induction l generalizing a with
  | nil => simp; omega
  | cons p l ih =>
    obtain ⟨h1, h2⟩ := h.cons
    have hp := ha p (by simp)
    have := ih h2 (p.1 + 1) (fun q hq => ⟨by have := h1 q hq; omega, (ha q (by simp [hq])).2⟩) (by omega)
    simp only [List.length_cons]
    omega
theorem mapP_length {l : PL} (h : MapP l) : l.length ≤ 1000 := by
  have := asc_length l h.1 0 (fun p hp => (h.2 p hp).1) (by omega)
  omega
theorem foldP_length (l : PL) (ms : ML) : (ms.foldl doP l).length ≤ l.length + ms.length := by
  induction ms generalizing l with
  | nil => simp
  | cons m ms ih =>
    have h1 := ih (doP l m)
    have h2 := doP_length l m
    simp only [List.foldl_cons, List.length_cons] at *
    omega
theorem foldP_succ (l : PL) (ms : ML) (k : Nat) (h : k < ms.length) : (ms.take (k + 1)).foldl doP l = doP ((ms.take k).foldl doP l) (mO ms k, mK ms k, mV ms k) := by
  rw [take_succM ms k h, List.foldl_append]; rfl

theorem SrtM.lt {w : World} {B : Nat} {F : Nat → Prop} {l : PL} (h : SrtM w B F l) : B < w.heap.size := by
  obtain ⟨kv, vv, h1, _⟩ := h
  exact (Array.getElem?_eq_some_iff.1 h1).1

set_option maxRecDepth 100000 in
set_option maxHeartbeats 4000000 in
theorem implMapAll_any (va vm : Value) (l : PL) (ms : ML) (w : World) (h : Row w va l.length (flatP l)) (hm : Row w vm ms.length (flatM ms)) (hn : l.length + ms.length ≤ 2097152) :
    Calls Tryz.prog 46 #[va, vm] w fun e w' => ∃ v', e = .returned v' ∧ w'.ownsRow w.heap.size 53 2 v' (allL l ms).length (flatP (allL l ms)) ∧ Below w.heap.size w w' := by
  have RW : Hid (Row w va l.length (flatP l)) := h
  have RM : Hid (Row w vm ms.length (flatM ms)) := hm
  clear h hm
  cases hM : mapOkB l
  · obtain ⟨i0, hi, hz0, hz1, hz2⟩ := info_parts Tryz.info53
    have HR : Hid _ := room_row (n := l.length) (bytes := 16) (by omega) (by decide)
    have E : Hid (allL l ms = l) := allL_of_not hM ms
    go_enter Tryz.func46, Tryz.ntmps46
    go_wp2_with fail
    refine (implMapOk_any va l _ RW.out).mono ?_
    rw [hM]
    rintro e w1 ⟨rfl, b1⟩
    have B1s := b1.size
    have RR : Hid (Row w1 va l.length (flatP l)) := RW.out.below b1
    clear hM
    go_wp2_with (at_builtin; refine app_row w1 rfl _ _ 33 rfl w.heap.size 53 i0 _ 2 16 Tryz.underlying33 hi hz0 hz1 hz2 rfl (by decide) (.slice none 0 0) 0 [] rfl (World.ownsRow_nil _ _ _ _) va l.length (flatP l) rfl RR.out (flatP_length _) (flatP_one _) HR.out.1 HR.out.2 B1s ?_)
    intro v' w2 ho2 _ hb2
    have B2 : Below w.heap.size w w2 := b1.trans hb2
    clear hb2 b1
    go_wp2
    go_ret
    rw [E.out]
    exact ⟨_, rfl, by simpa using ho2, B2⟩
  · have hmp : MapP l := (mapOkB_iff l).1 hM
    have E : Hid (allL l ms = (okMs ms).foldl doP l) := allL_ok hmp ms
    have HMP : Hid (MapP l) := hmp
    have hml := mapP_length hmp
    have hol := okMs_length ms
    have HOK : Hid (∀ m ∈ okMs ms, okM m = true) := fun m hm => (List.mem_filter.1 hm).2
    clear hmp
    go_enter Tryz.func46, Tryz.ntmps46
    go_wp2_with fail
    refine (implMapOk_any va l _ RW.out).mono ?_
    rw [hM]
    rintro e w1 ⟨rfl, b1⟩
    have B1 : Hid (Below w.heap.size w w1) := b1
    clear hM b1
    go_wp2_with fail
    refine (sortedOf_any va l _ (RW.out.below B1.out) HMP.out.1 (by omega)).mono ?_
    rintro e w2 ⟨kv, vv, rfl, o1, o2, hd, b2⟩
    obtain ⟨ka, kc, hkv⟩ := owns_val o1
    obtain ⟨vva, vc, hvv⟩ := owns_val o2
    subst hkv
    subst hvv
    have B2 : Below w.heap.size w w2 := Below.and B1.out b2
    have b3 : Below w2.heap.size w2 (w2.alloc (.cells #[.slice ka l.length kc, .slice vva l.length vc] 100)) := (Below.refl _ _).alloc (Nat.le_refl _) _
    have SRT : SrtM (w2.alloc (.cells #[.slice ka l.length kc, .slice vva l.length vc] 100)) w2.heap.size (fun g => g = w2.heap.size ∨ (Value.slice ka l.length kc).ownBlock = some g ∨ (Value.slice vva l.length vc).ownBlock = some g) l :=
      ⟨_, _, heap_alloc_new w2 _, by rw [keys_length]; exact owns_below (owns_mono o1 (Nat.zero_le _)) b3, by rw [vals_length]; exact owns_below (owns_mono o2 (Nat.zero_le _)) b3, hd, Or.inl rfl, fun g hg => Or.inr (Or.inl hg), fun g hg => Or.inr (Or.inr hg)⟩
    have hF0 : ∀ g, (g = w2.heap.size ∨ (Value.slice ka l.length kc).ownBlock = some g ∨ (Value.slice vva l.length vc).ownBlock = some g) → w.heap.size ≤ g ∧ g < (w2.alloc (.cells #[.slice ka l.length kc, .slice vva l.length vc] 100)).heap.size := by
      have hs := B2.size
      have hs1 := B1.out.size
      rintro g (rfl | hg | hg)
      · exact ⟨by omega, by simp⟩
      · have := o1.lt g hg; exact ⟨by omega, by simp; omega⟩
      · have := o2.lt g hg; exact ⟨by omega, by simp; omega⟩
    have INFO : Hid _ := And.intro SRT (And.intro hF0 (And.intro b3 B2))
    clear SRT hF0 b3 B2 b2 hd o1 o2 B1
    go_wp2_with fail
    obtain ⟨SRT, hF0, b3, B2⟩ := INFO.out
    refine (changesOf_any vm ms _ ((RM.out.below B2).below b3) (by omega)).mono ?_
    rintro e w4 ⟨cs, rfl, oc, b4⟩
    generalize hms : okMs ms = cm at *
    obtain ⟨ca, cc, hcs⟩ := owns_val oc
    subst hcs
    have SRT4 := SRT.below b4
    have B4 : Below w.heap.size w w4 := Below.and (Below.and B2 b3) b4
    have hcl : ∀ g, (Value.slice ca cm.length cc).ownBlock = some g → (w2.alloc (.cells #[.slice ka l.length kc, .slice vva l.length vc] 100)).heap.size ≤ g := fun g hg => (oc.lt g hg).1
    have hB2 : w2.heap.size < w4.heap.size := SRT4.lt
    have hcm : cc ≤ maxLen := by
      obtain ⟨_, ⟨e, _⟩ | ⟨g, cap', cur, e, _, _, _, hc, _⟩⟩ := oc
      · simp at e; rw [e.2.2]; exact Nat.zero_le _
      · simp at e; rw [e.2]; exact hc
    have START : Hid _ := And.intro SRT4 (And.intro (fun g (hg : g = w2.heap.size ∨ (Value.slice ka l.length kc).ownBlock = some g ∨ (Value.slice vva l.length vc).ownBlock = some g) => (hF0 g hg).1) (And.intro (fun g (hg : g = w2.heap.size ∨ (Value.slice ka l.length kc).ownBlock = some g ∨ (Value.slice vva l.length vc).ownBlock = some g) (hh : (Value.slice ca cm.length cc).ownBlock = some g) => (show False by have h1 := (hF0 g hg).2; have h2 := hcl g hh; omega)) (And.intro (owns_mono (base' := 0) oc (Nat.zero_le _)) B4)))
    unfold maxLen at hcm
    clear SRT SRT4 hF0 b3 b4 B2 B4 oc hcl INFO RW RM hms
    go_wp2
    go_loopw [18] (fun i wr => ∃ (k : Nat) (F : Nat → Prop), k ≤ cm.length ∧ i = .int .i64 k ∧ SrtM wr w2.heap.size F ((cm.take k).foldl doP l) ∧ (∀ g, F g → w.heap.size ≤ g) ∧ (∀ g, F g → (Value.slice ca cm.length cc).ownBlock = some g → False) ∧ wr.ownsRow 0 105 1 (.slice ca cm.length cc) cm.length (cm.map encC) ∧ Below w.heap.size w wr)
      (fun i _ => cm.length - (intOf i).toNat)
    case atStart => exact ⟨0, _, Nat.zero_le _, rfl, START.out.1, START.out.2.1, START.out.2.2.1, START.out.2.2.2.1, START.out.2.2.2.2⟩
    case round =>
      obtain ⟨k, F, hkl, rfl, hsrt, hF, hFc, hoc, hb⟩ := hrel
      clear START
      by_cases hlt : k < cm.length
      · have hex : ∃ g, ca = some ⟨g, 0, none⟩ := by
          obtain ⟨_, ⟨e, e2⟩ | ⟨g, cap', cur, e, _⟩⟩ := hoc
          · omega
          · simp at e; exact ⟨g, e.1⟩
        obtain ⟨g, rfl⟩ := hex
        have hcell : wr.cell? ⟨g, k, none⟩ = some (encC (mO cm k, mK cm k, mV cm k)) := by
          rw [hoc.cellAt k (by omega), List.getElem?_map, List.getElem?_eq_getElem hlt, ml_at cm k hlt]; rfl
        obtain ⟨tt, xx, hx⟩ := encC_iface (mO cm k, mK cm k, mV cm k)
        rw [hx] at hcell
        have hmk : msgOkB (mO cm k) (mK cm k) (mV cm k) = true := by
          have := HOK.out cm[k] (List.getElem_mem hlt)
          rw [ml_at cm k hlt] at this
          exact this
        have FSUC : Hid _ := foldP_succ l cm k hlt
        have hfl := foldP_length l (cm.take k)
        have htl : (cm.take k).length ≤ k := List.length_take_le _ _
        have MP : Hid _ := foldP_mapP HMP.out (cm.take k) (fun m hm => HOK.out m (List.mem_of_mem_take hm))
        generalize (cm.take k).foldl doP l = A at *
        have hA := mapP_length MP.out
        have TU := turn_any w2.heap.size F A (mO cm k) (mK cm k) (mV cm k) wr hsrt MP.out hmk (by omega)
        rw [hx] at TU
        have TU' : Hid _ := (fun (_ : Nat) => TU)
        have INFO : Hid _ := And.intro hF (And.intro hFc (And.intro hoc hb))
        clear TU hF hFc hoc hb hsrt hmk hx
        go_wp2_with fail
        refine (TU'.out 0).mono ?_
        rintro e w5 ⟨rfl, F', h1, h2, h3⟩
        obtain ⟨hF, hFc, hoc, hb⟩ := INFO.out
        have hwlt : ∀ g', (Value.slice (some ⟨g, 0, none⟩) cm.length cc).ownBlock = some g' → g' < wr.heap.size := fun g' hg' => (owns_lt hoc hg').1
        have hbs := hb.size
        have FIN : Hid _ := And.intro h1 (And.intro (show ∀ g', F' g' → w.heap.size ≤ g' from fun g' hg' => (h3 g' hg').elim (hF g') (fun hh => by omega)) (And.intro (show ∀ g', F' g' → (Value.slice (some ⟨g, 0, none⟩) cm.length cc).ownBlock = some g' → False from fun g' hg' hh => (h3 g' hg').elim (fun hh2 => hFc g' hh2 hh) (fun hh2 => by have := hwlt g' hh; omega))
          (And.intro (owns_chg hoc h2 (fun g' hg' hh => hFc g' hh hg')) (hb.trans (h2.below (fun g' _ hg' => hF g' hg') hbs)))))
        clear h1 h2 h3 hF hFc hoc hb hwlt hbs INFO TU'
        go_wp2
        go_roundw
        case rel => exact ⟨k + 1, F', by omega, by go_num, by rw [FSUC.out]; exact FIN.out.1, FIN.out.2.1, FIN.out.2.2.1, FIN.out.2.2.2.1, FIN.out.2.2.2.2⟩
        case measure => simp [intOf]; omega
      · have hkk : k = cm.length := by omega
        subst hkk
        rw [List.take_of_length_le (Nat.le_refl _)] at hsrt
        have hfl := foldP_length l cm
        rw [← E.out] at hsrt hfl
        obtain ⟨kv', vv', h1, h2, h3, h4, h5, h6, h7⟩ := hsrt
        rw [keys_length] at h2
        rw [vals_length] at h3
        have R1 := Row.of_owns h2
        have R2 := Row.of_owns h3
        obtain ⟨ka', kc', hkv'⟩ := owns_val h2
        obtain ⟨va', vc', hvv'⟩ := owns_val h3
        have c0 : wr.cell? ⟨w2.heap.size, 0, none⟩ = some kv' := by rw [cell_of_cells h1]; rfl
        have c1 : wr.cell? ⟨w2.heap.size, 1, none⟩ = some vv' := by rw [cell_of_cells h1]; rfl
        rw [hkv'] at c0 R1
        rw [hvv'] at c1 R2
        have PO : Hid _ := (fun (_ : Nat) => pairsOf_any _ _ (allL l ms) wr R1 R2 (by omega))
        have hbh : Hid _ := hb
        clear h1 h2 h3 h4 h5 h6 h7 hkv' hvv' hF hFc hoc hb R1 R2
        go_wp2_with fail
        refine (PO.out 0).mono ?_
        rintro e w6 ⟨v6, rfl, o6, b6⟩
        go_wp2
        go_ret
        exact ⟨_, rfl, owns_mono o6 hbh.out.size, Below.and hbh.out b6⟩

end Go.Proofs.YtccdleafkhnfmaaGreat
