/-
  The model's Plan: whatever the disk is, it answers, with a list of its own.
-/
import Derived.Test.YtekcnibohikmdaaOfWrites24
import Derived.Test.YtekcnibohikmdaaOfWrites25
import Derived.Test.YtekcnibohikmdaaOfWrites36
namespace Go.Proofs.Ytekcnibohikmdaa
set_option maxRecDepth 100000
set_option maxHeartbeats 8000000
section
open Go.RowKit

theorem run_l6Taken (args : Array Value) (w : World) : (callFunc 29 args).run Try.prog w = .ok (.enter 29 args) w := by go_simp
theorem Lst.none (w : World) (B g k : Nat) : Lst w B (.slice (some ⟨g, 0, none⟩) 0 0) k := ⟨[], Nat.zero_le _, fun y hy => by simp at hy, OwnE.zero _ _ _ _ _⟩
theorem Lst.slice {w : World} {B k : Nat} {v : Value} (h : Lst w B v k) : ∃ (a : Option Addr) (n q : Nat), v = .slice a n q := by
 obtain ⟨l, _, _, h3⟩ := h
 obtain ⟨a, q, rfl⟩ := h3.slice
 exact ⟨a, _, q, rfl⟩
structure PaI (w : World) (vp vs : Value) (cs : Array Value) (u : World) : Prop where
 b : Below w.heap.size w u
 x : u.heap[w.heap.size]? = some (.cells #[vp, vs] 27)
 t : u.heap[w.heap.size + 1]? = some (.cells cs 54)
theorem PaI.low {w : World} {vp vs : Value} {cs : Array Value} {u u' : World} (h : PaI w vp vs cs u) (hb : Below u.heap.size u u') : PaI w vp vs cs u' :=
 ⟨h.b.trans (hb.mono h.b.size), row_chg h.x (Chg.of_below (F := fun _ => False) hb) id, row_chg h.t (Chg.of_below (F := fun _ => False) hb) id⟩
theorem PaI.high {w : World} {vp vs : Value} {cs : Array Value} {F : Nat → Prop} {u u' : World} (h : PaI w vp vs cs u) (hc : Chg F u u') (hF : ∀ g, F g → w.heap.size + 2 ≤ g) : PaI w vp vs cs u' :=
 ⟨h.b.trans (hc.below (fun g _ e => by have := hF g e; omega) h.b.size), row_chg h.x hc (fun e => by have := hF _ e; omega), row_chg h.t hc (fun e => by have := hF _ e; omega)⟩
def PlanIs (w : World) (e : Ending) (w' : World) : Prop := ∃ (v : Value) (ok : Bool), e = .returned (.tuple #[v, .bool ok]) ∧ Lst w' w.heap.size v 1000002 ∧ Below w.heap.size w w'

theorem specPlan_any (x : TV) (T : Tr) (vp vs : Value) (P : PgL) (S : SL) (hP : PageOk P) (w : World) (hr : Row w vp P.length (flatS P)) (hs : Row w vs S.length (flatP S)) (ht : TreeAt 8 w x T) (hsz : sizeT 8 T ≤ 1099511627776) :
  Calls Try.prog 21 #[.agg #[vp, vs], x.val] w (PlanIs w) := by
 obtain ⟨i0, hi, hz0, hz1, hz2⟩ := info_parts Try.info35
 obtain ⟨a1, a2, a3, a4, q1, q2, q3, q4, hx⟩ := ht.shape
 subst hx
 obtain ⟨pa, pq, rfl, hpm⟩ := hr.len
 obtain ⟨sa, sb, so, sq, rfl, hscap, hsmax, hsa, hsk, hsv⟩ := hs.pairs
 unfold maxLen at hsmax
 have SK : Hid _ := And.intro hsa (And.intro hsk hsv)
 have OKH := hid (fun (u : World) (hu : Below w.heap.size w u) => specTreeOk_any 8 _ T u (ht.below hu) hsz)
 have TKH := hid (fun (u : World) (hu : Below w.heap.size w u) => l6Taken_any _ _ P S hP u (hr.below hu) (hs.below hu))
 have PLH := hid (fun (ho : okT T = true) (G : Nat) (hG : w.heap.size ≤ G) (u : World) (hu : Below w.heap.size w u) (h : Seen u G P.length) (g : Nat) => l6Plan_any w G P.length hG hP.1 8 _ T (.slice (some ⟨g, 0, none⟩) 0 0) 0 u ht (by have := size_ok8 ho; omega) hu h (Lst.none _ _ _ _))
 have SZ := hid (fun (ho : okT T = true) => size_ok8 ho)
 have al := al1 w (.cells #[.slice pa P.length pq, .slice sa S.length sq] 27)
 have al' := al1 (w.alloc (.cells #[.slice pa P.length pq, .slice sa S.length sq] 27)) (.cells #[.bool T.leaf, .slice a1 T.pairs.length q1, .slice a2 T.cuts.length q2, .slice a3 T.kids.length q3, .slice a4 T.buf.length q4] 54)
 have S0 : Hid (PaI w (.slice pa P.length pq) (.slice sa S.length sq) #[.bool T.leaf, .slice a1 T.pairs.length q1, .slice a2 T.cuts.length q2, .slice a3 T.kids.length q3, .slice a4 T.buf.length q4] ((w.alloc (.cells #[.slice pa P.length pq, .slice sa S.length sq] 27)).alloc (.cells #[.bool T.leaf, .slice a1 T.pairs.length q1, .slice a2 T.cuts.length q2, .slice a3 T.kids.length q3, .slice a4 T.buf.length q4] 54))) :=
  ⟨Below.and al al', (al'.block _ (by simp)).trans (heap_alloc_new _ _), by have := heap_alloc_new (w.alloc (.cells #[.slice pa P.length pq, .slice sa S.length sq] 27)) (.cells #[.bool T.leaf, .slice a1 T.pairs.length q1, .slice a2 T.cuts.length q2, .slice a3 T.kids.length q3, .slice a4 T.buf.length q4] 54); simpa using this⟩
 clear hr hs ht hsz hsa hsk hsv hP al al'
 generalize okT T = okB at *
 generalize P.length = pn at *
 generalize T.pairs.length = n1 at *
 generalize T.cuts.length = n2 at *
 generalize T.kids.length = n3 at *
 generalize T.buf.length = n4 at *
 generalize T.leaf = lf at *
 generalize sizeT 8 T = sz at *
 go_enter Try.func21, Try.ntmps21
 go_upto_region 2 with fail
 refine wp_gen (fun u => PaI w (.slice pa pn pq) (.slice sa S.length sq) #[.bool lf, .slice a1 n1 q1, .slice a2 n2 q2, .slice a3 n3 q3, .slice a4 n4 q4] u ∧ Hid (w.heap.size + 2 < u.heap.size)) ⟨S0.out.low (al1 _ _), by show _ < _; simp⟩ ?_
 rintro V ⟨hV, hVs⟩
 have JV := hid hV
 have t0 : V.cell? ⟨w.heap.size + 1, 0, none⟩ = some (.bool lf) := cell_of_cells hV.t
 have t1 : V.cell? ⟨w.heap.size + 1, 1, none⟩ = some (.slice a1 n1 q1) := cell_of_cells hV.t
 have t2 : V.cell? ⟨w.heap.size + 1, 2, none⟩ = some (.slice a2 n2 q2) := cell_of_cells hV.t
 have t3 : V.cell? ⟨w.heap.size + 1, 3, none⟩ = some (.slice a3 n3 q3) := cell_of_cells hV.t
 have t4 : V.cell? ⟨w.heap.size + 1, 4, none⟩ = some (.slice a4 n4 q4) := cell_of_cells hV.t
 clear hV S0
 go_wp2_with fail
 refine Calls.mono (OKH.out V JV.out.b) ?_
 rintro e w1 ⟨rfl, hb1⟩
 have J1 := hid (And.intro (JV.out.low hb1) (Nat.lt_of_lt_of_le hVs.out hb1.size))
 clear hb1 JV hVs OKH t0 t1 t2 t3 t4
 cases okB with
 | false =>
  go_wp2
  refine bodyPost_ret (v := .tuple #[.slice (some ⟨w.heap.size + 1 + 1, 0, none⟩) 0 0, .bool false]) (by simp [results, Try.results21, go_sem]) rfl ⟨_, _, rfl, Lst.none _ _ _ _, J1.out.1.b⟩
 | true =>
  have d1 : w1.cell? ⟨w.heap.size, 1, none⟩ = some (.slice sa S.length sq) := cell_of_cells J1.out.1.x
  by_cases h2 : S.length = 2
  ·have TK1 := hid (TKH.out w1 J1.out.1.b)
   generalize S.length = sn at *
   subst h2
   go_wp2_with fail
   clear d1
   have SS : Hid (∀ u, PaI w (.slice pa pn pq) (.slice sa 2 sq) #[.bool lf, .slice a1 n1 q1, .slice a2 n2 q2, .slice a3 n3 q3, .slice a4 n4 q4] u → (u.cell? ⟨w.heap.size, 0, none⟩ = some (.slice pa pn pq) ∧ u.cell? ⟨w.heap.size, 1, none⟩ = some (.slice sa 2 sq)) ∧ (u.cell? ⟨w.heap.size + 1, 0, none⟩ = some (.bool lf) ∧ u.cell? ⟨w.heap.size + 1, 1, none⟩ = some (.slice a1 n1 q1) ∧ u.cell? ⟨w.heap.size + 1, 2, none⟩ = some (.slice a2 n2 q2) ∧ u.cell? ⟨w.heap.size + 1, 3, none⟩ = some (.slice a3 n3 q3) ∧ u.cell? ⟨w.heap.size + 1, 4, none⟩ = some (.slice a4 n4 q4))) := fun u h => ⟨⟨cell_of_cells h.x, cell_of_cells h.x⟩, cell_of_cells h.t, cell_of_cells h.t, cell_of_cells h.t, cell_of_cells h.t, cell_of_cells h.t⟩
   have JD := hid (J1.out.1.low (Below.refl _ w1).drew)
   have TKD := hid (TKH.out w1.drew JD.out.b)
   clear TK1
   refine wp_region_held_drew (S := fun u => (u.cell? ⟨w.heap.size, 0, none⟩ = some (.slice pa pn pq) ∧ u.cell? ⟨w.heap.size, 1, none⟩ = some (.slice sa 2 sq)) ∧ (u.cell? ⟨w.heap.size + 1, 0, none⟩ = some (.bool lf) ∧ u.cell? ⟨w.heap.size + 1, 1, none⟩ = some (.slice a1 n1 q1) ∧ u.cell? ⟨w.heap.size + 1, 2, none⟩ = some (.slice a2 n2 q2) ∧ u.cell? ⟨w.heap.size + 1, 3, none⟩ = some (.slice a3 n3 q3) ∧ u.cell? ⟨w.heap.size + 1, 4, none⟩ = some (.slice a4 n4 q4))) (by kernel_rfl) (SS.out _ JD.out) (fun hH => ?_)
   refine tq 0 rfl (by kernel_rfl) (fun _ _ _ h => h) (by assumption) rfl (by intro w h; go_simp <;> with_reducible rfl) ?_
   try simp only [Act.put, List.setIfInBounds_toArray, List.set_cons_zero, List.set_cons_succ]
   refine tq 1 rfl (by kernel_rfl) (fun _ _ _ h => h) (by assumption) rfl (by intro w h; go_simp <;> with_reducible rfl) ?_
   try simp only [Act.put, List.setIfInBounds_toArray, List.set_cons_zero, List.set_cons_succ]
   refine tq 3 rfl (by kernel_rfl) (fun _ _ _ h => h) (by assumption) rfl (by intro w h; go_simp <;> with_reducible rfl) ?_
   try simp only [Act.put, List.setIfInBounds_toArray, List.set_cons_zero, List.set_cons_succ]
   refine rq 2 (by kernel_rfl) rfl (fun K hK => ?_)
   refine step_func rfl 29 [.tmp 25] #[27] rfl run_l6Taken [.agg #[.slice pa pn pq, .slice sa 2 sq]] rfl TKD.out ?_
   rintro e w2 ⟨G, rfl, hG, sG, b2⟩
   refine ⟨_, rfl, ?_⟩
   have J2 := hid (JD.out.low b2)
   have hG2 : w.heap.size + 2 ≤ G := by have h1 := J1.out.2; have h2 : w1.drew.heap.size = w1.heap.size := rfl; omega
   have PLD := hid (PLH.out trivial G (by omega) w2 J2.out.b sG (w.heap.size + 1 + 1))
   refine hK.out _ _ (SS.out _ J2.out) (fun hH2 => ?_)
   clear hK K hH sG b2 TKD JD
   have hH := hH2
   clear hH2
   try simp only [Act.put, List.setIfInBounds_toArray, List.set_cons_zero, List.set_cons_succ]
   refine rq 4 (by kernel_rfl) rfl (fun K hK => ?_)
   refine step_func rfl 28 [.tmp 24, .tmp 26, .tmp 27] #[54, 36, 28] rfl run_l6Plan [.agg #[.bool lf, .slice a1 n1 q1, .slice a2 n2 q2, .slice a3 n3 q3, .slice a4 n4 q4], .slice (some ⟨G, 0, none⟩) pn pn, .slice (some ⟨w.heap.size + 1 + 1, 0, none⟩) 0 0] rfl PLD.out ?_
   rintro e w3 ⟨v, r, rfl, hr0, hr1, hl, hs3, c3⟩
   refine ⟨_, rfl, ?_⟩
   have J3 := hid (J2.out.high c3 (fun g e => by
    rcases e with e | e
    ·omega
    ·exact (wrB_zero _ _ e).elim))
   refine hK.out _ _ (SS.out _ J3.out) (fun hH2 => ?_)
   clear hK K hH hs3 c3 PLD J2
   have hH := hH2
   clear hH2
   try simp only [Act.put, List.setIfInBounds_toArray, List.set_cons_zero, List.set_cons_succ]
   refine tq 5 rfl (by kernel_rfl) (fun _ _ _ h => h) (by assumption) rfl (by intro w h; go_simp <;> with_reducible rfl) ?_
   try simp only [Act.put, List.setIfInBounds_toArray, List.set_cons_zero, List.set_cons_succ]
   refine tq 6 rfl (by kernel_rfl) (fun _ _ _ h => h) (by assumption) rfl (by intro w h; go_simp <;> with_reducible rfl) ?_
   try simp only [Act.put, List.setIfInBounds_toArray, List.set_cons_zero, List.set_cons_succ]
   refine tq 7 rfl (by kernel_rfl) (fun _ _ _ h => h) (by assumption) rfl (by intro w h; go_simp <;> with_reducible rfl) ?_
   try simp only [Act.put, List.setIfInBounds_toArray, List.set_cons_zero, List.set_cons_succ]
   refine tq 8 rfl (by kernel_rfl) (fun _ _ _ h => h) (by assumption) rfl (by intro w h; go_simp <;> with_reducible rfl) ?_
   try simp only [Act.put, List.setIfInBounds_toArray, List.set_cons_zero, List.set_cons_succ]
   refine tq 9 rfl (by kernel_rfl) (fun _ _ _ h => h) (by assumption) rfl (by intro w h; go_simp <;> with_reducible rfl) ?_
   try simp only [Act.put, List.setIfInBounds_toArray, List.set_cons_zero, List.set_cons_succ]
   refine wpAnyH_done (by kernel_rfl) ?_ _
   clear hH
   by_cases hneg : r < 0
   ·go_wp2
    refine bodyPost_ret (v := .tuple #[.slice (some ⟨w.heap.size + 1 + 1, 0, none⟩) 0 0, .bool false]) (by simp [results, Try.results21, go_sem]) rfl ⟨_, _, rfl, Lst.none _ _ _ _, J3.out.b⟩
   ·have LF := hid ((hl (by omega)).1.mono (k' := 1000001) (by have := SZ.out trivial; omega))
    have hal := SK.out.1 (by decide)
    subst hal
    have c0 : w.cell? ⟨sb, so, none⟩ = some (.int .i64 (kOf S 0)) := SK.out.2.1 0 (by decide)
    have c1 : w.cell? ⟨sb, so + 2, none⟩ = some (.int .i64 (kOf S 1)) := SK.out.2.1 1 (by decide)
    have K7 : Hid (∀ u, Below w.heap.size w u → u.cell? ⟨sb, so, none⟩ = some (.int .i64 (kOf S 0)) ∧ u.cell? ⟨sb, so + 2, none⟩ = some (.int .i64 (kOf S 1))) := fun u hu => ⟨(hu.cell (by exact cell_lt c0)).trans c0, (hu.cell (by exact cell_lt c1)).trans c1⟩
    generalize kOf S 0 = va at *
    generalize kOf S 1 = vb at *
    clear hl c0 c1 hr0 hr1
    go_wp2_with fail
    have JD := hid (J3.out.low (Below.refl _ w3).drew)
    have LD := hid (LF.out.below (Below.refl _ w3).drew)
    refine wp_region_held_drew (S := fun u => u.cell? ⟨w.heap.size, 1, none⟩ = some (.slice (some ⟨sb, so, none⟩) 2 sq) ∧ u.cell? ⟨sb, so, none⟩ = some (.int .i64 va) ∧ u.cell? ⟨sb, so + 2, none⟩ = some (.int .i64 vb)) (by kernel_rfl) ⟨(SS.out _ JD.out).1.2, K7.out _ JD.out.b⟩ (fun hH => ?_)
    refine tq 0 rfl (by kernel_rfl) (fun _ _ _ h => h) (by assumption) rfl (by intro w h; go_simp <;> with_reducible rfl) ?_
    try simp only [Act.put, List.setIfInBounds_toArray, List.set_cons_zero, List.set_cons_succ]
    refine tq 1 rfl (by kernel_rfl) (fun _ _ _ h => h) (by assumption) rfl (by intro w h; go_simp <;> with_reducible rfl) ?_
    try simp only [Act.put, List.setIfInBounds_toArray, List.set_cons_zero, List.set_cons_succ]
    refine tq 2 rfl (by kernel_rfl) (fun _ _ _ h => h) (by assumption) rfl (by intro w h; go_simp <;> with_reducible rfl) ?_
    try simp only [Act.put, List.setIfInBounds_toArray, List.set_cons_zero, List.set_cons_succ]
    refine tq 3 rfl (by kernel_rfl) (fun _ _ _ h => h) (by assumption) rfl (by intro w h; go_simp <;> with_reducible rfl) ?_
    try simp only [Act.put, List.setIfInBounds_toArray, List.set_cons_zero, List.set_cons_succ]
    refine tq 4 rfl (by kernel_rfl) (fun _ _ _ h => h) (by assumption) rfl (by intro w h; go_simp <;> with_reducible rfl) ?_
    try simp only [Act.put, List.setIfInBounds_toArray, List.set_cons_zero, List.set_cons_succ]
    refine tq 5 rfl (by kernel_rfl) (fun _ _ _ h => h) (by assumption) rfl (by intro w h; go_simp <;> with_reducible rfl) ?_
    try simp only [Act.put, List.setIfInBounds_toArray, List.set_cons_zero, List.set_cons_succ]
    refine tq 6 rfl (by kernel_rfl) (fun _ _ _ h => h) (by assumption) rfl (by intro w h; go_simp <;> with_reducible rfl) ?_
    try simp only [Act.put, List.setIfInBounds_toArray, List.set_cons_zero, List.set_cons_succ]
    refine tq 7 rfl (by kernel_rfl) (fun _ _ _ h => h) (by assumption) rfl (by intro w h; go_simp <;> with_reducible rfl) ?_
    try simp only [Act.put, List.setIfInBounds_toArray, List.set_cons_zero, List.set_cons_succ]
    refine tq 8 rfl (by kernel_rfl) (fun _ _ _ h => h) (by assumption) rfl (by intro w h; go_simp <;> with_reducible rfl) ?_
    try simp only [Act.put, List.setIfInBounds_toArray, List.set_cons_zero, List.set_cons_succ]
    refine tq 9 rfl (by kernel_rfl) (fun _ _ _ h => h) (by assumption) rfl (by intro w h; go_simp <;> with_reducible rfl) ?_
    try simp only [Act.put, List.setIfInBounds_toArray, List.set_cons_zero, List.set_cons_succ]
    refine tq 10 rfl (by kernel_rfl) (fun _ _ _ h => h) (by assumption) rfl (by intro w h; go_simp <;> with_reducible rfl) ?_
    try simp only [Act.put, List.setIfInBounds_toArray, List.set_cons_zero, List.set_cons_succ]
    refine tq 11 rfl (by kernel_rfl) (fun _ _ _ h => h) (by assumption) rfl (by intro w h; go_simp <;> with_reducible rfl) ?_
    try simp only [Act.put, List.setIfInBounds_toArray, List.set_cons_zero, List.set_cons_succ]
    refine wpAnyH_done (by kernel_rfl) ?_ _
    clear hH J3 LF
    generalize w3.drew = w3 at *
    go_wp2_with fail
    refine Calls.mono (l1Max_any va vb w3) ?_
    rintro e w4 ⟨rfl, rfl⟩
    generalize max va vb = mv at *
    go_upto_region 9 with fail
    generalize wrap64 (mv + 1) = nv at *
    by_cases hlt : vb < va
    ·obtain ⟨l3, hl3, hok3, h3⟩ := LD.out
     obtain ⟨la, lq, hv1⟩ := h3.slice
     subst hv1
     have RW := roomW (n := l3.length) (m := 1) (by omega)
     have bw1 := bel_new w4 (.cells #[.int .i64 (-2), .string ⟨#[]⟩, .int .i64 nv, .int .i64 r] 35)
     have bw2 := bel_new (w4.alloc (.cells #[.int .i64 (-2), .string ⟨#[]⟩, .int .i64 nv, .int .i64 r] 35)) (.cells #[.int .i64 (-2), .string ⟨#[]⟩, .int .i64 nv, .int .i64 r] 35)
     have hb9 : w.heap.size ≤ ((w4.alloc (.cells #[.int .i64 (-2), .string ⟨#[]⟩, .int .i64 nv, .int .i64 r] 35)).alloc (.cells #[.int .i64 (-2), .string ⟨#[]⟩, .int .i64 nv, .int .i64 r] 35)).heap.size := by have := JD.out.b.size; simp; omega
     have h3b := hid (h3.below (Below.and bw1 bw2))
     have JB := hid (Below.and JD.out.b (Below.and bw1 bw2))
     have RL := Row.laid (w4.alloc (.cells #[.int .i64 (-2), .string ⟨#[]⟩, .int .i64 nv, .int .i64 r] 35)) (flatW [((-2 : Int), (⟨#[]⟩ : ByteArray), nv, r)]) 35 _ rfl
     rw [show (w4.alloc (.cells #[.int .i64 (-2), .string ⟨#[]⟩, .int .i64 nv, .int .i64 r] 35)).heap.size = w4.heap.size + 1 by simp] at RL
     have RLH := hid RL
     clear h3 bw1 bw2 RL JD LD
     go_wp2_with (at_builtin; go_loud (refine list_appE ((w4.alloc (.cells #[.int .i64 (-2), .string ⟨#[]⟩, .int .i64 nv, .int .i64 r] 35)).alloc (.cells #[.int .i64 (-2), .string ⟨#[]⟩, .int .i64 nv, .int .i64 r] 35)) rfl _ _ 28 rfl w.heap.size 35 i0 _ 4 40 Try.underlying28 hi hz0 hz1 hz2 rfl (by decide) (.slice la l3.length lq) l3.length (flatW l3) rfl h3b.out (.slice (some ⟨w4.heap.size + 1, 0, none⟩) 1 1) 1 (flatW [((-2 : Int), (⟨#[]⟩ : ByteArray), nv, r)]) rfl RLH.out rfl (flatW_one _) RW.1 RW.2 hb9 ?_))
     intro v2 w5 A2
     obtain ⟨o2, g2, b5, n2⟩ := A2
     have LF : Hid (Lst w5 w.heap.size v2 1000002) := ⟨l3 ++ [((-2 : Int), (⟨#[]⟩ : ByteArray), nv, r)], by simp; omega, fun y hy => by
      rcases List.mem_append.1 hy with h | h
      ·exact hok3 y h
      ·simp at h
       subst h
       exact ⟨⟨by show (-9223372036854775808 : Int) ≤ -2; decide, by show (-2 : Int) ≤ 9223372036854775807; decide⟩, by show (0 : Nat) ≤ 200; decide⟩, by rw [flatW_append]; simpa using o2⟩
     have BF := hid (JB.out.trans b5)
     clear o2 g2 b5 n2 h3b RLH JB
     go_wp2
     refine bodyPost_ret (v := .tuple #[v2, .bool true]) (by simp [results, Try.results21, go_sem]) rfl ⟨_, _, rfl, LF.out, BF.out⟩
    ·obtain ⟨l3, hl3, hok3, h3⟩ := LD.out
     obtain ⟨la, lq, hv1⟩ := h3.slice
     subst hv1
     have RW := roomW (n := l3.length) (m := 1) (by omega)
     have bw1 := bel_new w4 (.cells #[.int .i64 (-1), .string ⟨#[]⟩, .int .i64 nv, .int .i64 r] 35)
     have bw2 := bel_new (w4.alloc (.cells #[.int .i64 (-1), .string ⟨#[]⟩, .int .i64 nv, .int .i64 r] 35)) (.cells #[.int .i64 (-1), .string ⟨#[]⟩, .int .i64 nv, .int .i64 r] 35)
     have hb9 : w.heap.size ≤ ((w4.alloc (.cells #[.int .i64 (-1), .string ⟨#[]⟩, .int .i64 nv, .int .i64 r] 35)).alloc (.cells #[.int .i64 (-1), .string ⟨#[]⟩, .int .i64 nv, .int .i64 r] 35)).heap.size := by have := JD.out.b.size; simp; omega
     have h3b := hid (h3.below (Below.and bw1 bw2))
     have JB := hid (Below.and JD.out.b (Below.and bw1 bw2))
     have RL := Row.laid (w4.alloc (.cells #[.int .i64 (-1), .string ⟨#[]⟩, .int .i64 nv, .int .i64 r] 35)) (flatW [((-1 : Int), (⟨#[]⟩ : ByteArray), nv, r)]) 35 _ rfl
     rw [show (w4.alloc (.cells #[.int .i64 (-1), .string ⟨#[]⟩, .int .i64 nv, .int .i64 r] 35)).heap.size = w4.heap.size + 1 by simp] at RL
     have RLH := hid RL
     clear h3 bw1 bw2 RL JD LD
     go_wp2_with (at_builtin; go_loud (refine list_appE ((w4.alloc (.cells #[.int .i64 (-1), .string ⟨#[]⟩, .int .i64 nv, .int .i64 r] 35)).alloc (.cells #[.int .i64 (-1), .string ⟨#[]⟩, .int .i64 nv, .int .i64 r] 35)) rfl _ _ 28 rfl w.heap.size 35 i0 _ 4 40 Try.underlying28 hi hz0 hz1 hz2 rfl (by decide) (.slice la l3.length lq) l3.length (flatW l3) rfl h3b.out (.slice (some ⟨w4.heap.size + 1, 0, none⟩) 1 1) 1 (flatW [((-1 : Int), (⟨#[]⟩ : ByteArray), nv, r)]) rfl RLH.out rfl (flatW_one _) RW.1 RW.2 hb9 ?_))
     intro v2 w5 A2
     obtain ⟨o2, g2, b5, n2⟩ := A2
     have LF : Hid (Lst w5 w.heap.size v2 1000002) := ⟨l3 ++ [((-1 : Int), (⟨#[]⟩ : ByteArray), nv, r)], by simp; omega, fun y hy => by
      rcases List.mem_append.1 hy with h | h
      ·exact hok3 y h
      ·simp at h
       subst h
       exact ⟨⟨by show (-9223372036854775808 : Int) ≤ -1; decide, by show (-1 : Int) ≤ 9223372036854775807; decide⟩, by show (0 : Nat) ≤ 200; decide⟩, by rw [flatW_append]; simpa using o2⟩
     have BF := hid (JB.out.trans b5)
     clear o2 g2 b5 n2 h3b RLH JB
     go_wp2
     refine bodyPost_ret (v := .tuple #[v2, .bool true]) (by simp [results, Try.results21, go_sem]) rfl ⟨_, _, rfl, LF.out, BF.out⟩
  ·have hne : ((S.length : Int) != 2) = true := by rw [bne_iff_ne]; omega
   go_wp2
   refine bodyPost_ret (v := .tuple #[.slice (some ⟨w.heap.size + 1 + 1, 0, none⟩) 0 0, .bool false]) (by simp [results, Try.results21, go_sem]) rfl ⟨_, _, rfl, Lst.none _ _ _ _, J1.out.1.b⟩
end
end Go.Proofs.Ytekcnibohikmdaa
