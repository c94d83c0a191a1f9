/-
  Worlds as arguments of a law.
-/
import Derived.Test.YthfmifdpldmbaaaOfFirst17
import Derived.Test.YthfmifdpldmbaaaOfFirst13
namespace Go.Proofs.Ythfmifdpldmbaaa
set_option maxRecDepth 100000
set_option maxHeartbeats 8000000
section
open Go.ChangeShapes Go.WideShapes Go.ChangeAt Go.RowKit Go.Deep Go.Joins

theorem Try.cellsW1 : Try.prog.cellsOf 102 = 5 := by kernel_rfl
theorem Try.cellsW2 : Try.prog.cellsOf 110 = 2 := by kernel_rfl
theorem Try.cellsW3 : Try.prog.cellsOf 82 = 15 := by kernel_rfl
theorem Try.cellsW4 : Try.prog.cellsOf 100 = 3 := by kernel_rfl
theorem Try.cellsW5 : Try.prog.cellsOf 28 = 6 := by kernel_rfl

theorem ls_of_trod {H ε : Type} {enc : TypeId × Value → H} {W : World} {cs : ε → List Value} {K : Nat} (hK : ∀ e, (cs e).length = K) {At : Nat → World → ε → Prop} {t el : TypeId} (ht : Try.prog.underlying t = some (.slice el)) (hc : Try.prog.cellsOf el = K) (hp : 0 < K)
  (hel : ∀ (n : Nat) (l : List Value) (y : DataW H × List MemPlace), l.length = K → DataW.trod enc Try.prog W 0 (fun _ => true) true n el l = some y → ∃ x : ε, l = cs x ∧ At n W x)
  {fuel : Nat} {c : Value} {y : DataW H × List MemPlace} (h : DataW.trod enc Try.prog W 0 (fun _ => true) true fuel t [c] = some y) : ∃ (n : Nat) (es : List ε), LsAt cs (At n) W c es := by
 rcases open_slice ht h with ⟨hcs, _⟩ | ⟨a, len, cap, m, n, D, Pl, hcs, _, hl, hm, hmm, _, hx⟩
 ·simp at hcs
  subst hcs
  exact ⟨0, [], ⟨none, 0, 0, 0, rfl, Nat.le_refl _, Nat.zero_le _, fun h => absurd h (Nat.lt_irrefl _), fun j u hj => by simp at hj, fun _ => rfl⟩, fun e he => by cases he⟩
 ·simp at hcs
  subst hcs
  simp only [if_true] at hmm
  have hk : ∀ i, i < len → ∃ x : ε, (∀ j, j < K → W.cell? ((a.add (i * K)).add j) = (cs x)[j]?) ∧ At n W x := by
   intro i hi
   obtain ⟨cs', h1, h2⟩ := hx i (by omega)
   rw [hc] at h1
   obtain ⟨_, hlen, hcell⟩ := World.cells?_some h1
   obtain ⟨x, e, hA⟩ := hel n cs' _ hlen h2
   subst e
   exact ⟨x, fun j hj => hcell j (by omega), hA⟩
  obtain ⟨b, off, spot⟩ := a
  have hf : ∀ i : Fin len, ∃ x : ε, (∀ j, j < K → W.cell? (((⟨b, off, spot⟩ : Addr).add (i.val * K)).add j) = (cs x)[j]?) ∧ At n W x := fun i => hk i.val i.isLt
  obtain ⟨f, hf⟩ : ∃ f : Fin len → ε, ∀ i : Fin len, (∀ j, j < K → W.cell? (((⟨b, off, spot⟩ : Addr).add (i.val * K)).add j) = (cs (f i))[j]?) ∧ At n W (f i) := ⟨fun i => Classical.choose (hf i), fun i => Classical.choose_spec (hf i)⟩
  have hl0 : (List.ofFn f).length = len := List.length_ofFn
  have hsp : 0 < len → spot = none := fun h => by
   have h1 := (hf ⟨0, h⟩).1 0 hp
   have h2 : 0 < (cs (f ⟨0, h⟩)).length := by rw [hK]; exact hp
   rw [List.getElem?_eq_getElem h2] at h1
   simpa [Addr.add] using World.cell?_spot h1
  refine ⟨n, List.ofFn f, ⟨some ⟨b, off, spot⟩, b, off, cap, by rw [hl0], by rw [hl0]; exact hl, hm, fun h => ?_, fun j u hj => ?_, fun h => by cases h⟩, fun e he => ?_⟩
  ·rw [hl0] at h
   rw [hsp h]
  ·have hA := allK_map (cs := cs) (K := K) hK (List.ofFn f)
   have hj2 : j < len * K := by
    have := (List.getElem?_eq_some_iff.1 hj).1
    rw [hA.len, List.length_map, hl0] at this
    exact this
   have hd : j / K < len := Nat.div_lt_of_lt_mul (by rw [Nat.mul_comm]; exact hj2)
   have hr : j % K < K := Nat.mod_lt _ hp
   have e : j / K * K + j % K = j := by rw [Nat.mul_comm]; exact Nat.div_add_mod j K
   have h1 := hA.at (j / K) (by rw [List.length_map, hl0]; exact hd) (j % K) hr
   rw [e, hj] at h1
   have h2 := (hf ⟨j / K, hd⟩).1 (j % K) hr
   have hs := hsp (Nat.lt_of_le_of_lt (Nat.zero_le _) hd)
   subst hs
   rw [add_plain, add_plain, Nat.add_assoc, e] at h2
   rw [h2, h1]
   simp
  ·obtain ⟨i, hi, rfl⟩ := List.getElem_of_mem he
   rw [List.getElem_ofFn]
   exact (hf _).2

theorem NodAt.le {n m : Nat} {w : World} {N : NodV} {D : Nd} (h : NodAt n w N D) (hm : n ≤ m) : NodAt m w N D := ⟨h.1, ⟨h.2.1.1.le hm, h.2.1.2⟩, h.2.2.1, h.2.2.2.1, h.2.2.2.2.1, ⟨h.2.2.2.2.2.1.le hm, h.2.2.2.2.2.2⟩⟩
theorem RpcAt.le {n m : Nat} {w : World} {N : RpcV} {D : Rd} (h : RpcAt n w N D) (hm : n ≤ m) : RpcAt m w N D := ⟨h.1, ⟨h.2.1.le hm, h.2.2⟩⟩

theorem node_of_trod {H : Type} {enc : TypeId × Value → H} {W : World} (fu : Nat) (cl : List Value) (y : DataW H × List MemPlace) (hsz : cl.length = 23)
  (hf : DataW.trod enc Try.prog W 0 (fun _ => true) true fu 79 cl = some y) : ∃ x : NodE, cl = nodC x ∧ nodAt fu W x := by
 obtain ⟨xs, n, hfu, -, -, hlen, hg⟩ := DataW.trod_struct Try.underlying79 hf
 match cl, hsz with
 | [c0, c1, c2, c3, c4, c5, c6, c7, c8, c9, c10, c11, c12, c13, c14, c15, c16, c17, c18, c19, c20, c21, c22], _ =>
 match xs, hlen with
 | [y0, y1, y2, y3, y4, y5, y6, y7, y8, y9, y10], _ =>
 have t0 := hg 0 _ rfl
 have t1 := hg 1 _ rfl
 have t2 := hg 2 _ rfl
 have t3 := hg 3 _ rfl
 have t4 := hg 4 _ rfl
 have t5 := hg 5 _ rfl
 have t6 := hg 6 _ rfl
 have t7 := hg 7 _ rfl
 have t8 := hg 8 _ rfl
 have t9 := hg 9 _ rfl
 have t10 := hg 10 _ rfl
 simp [Try.cells3, Try.cells68, Try.cells76, Try.cells77, Try.cells70] at t0 t1 t2 t3 t4 t5 t6 t7 t8 t9 t10
 obtain ⟨id, q0, _, w0⟩ := DataW.trod_int Try.underlying3 t0
 obtain ⟨te, q1, _, w1⟩ := DataW.trod_int Try.underlying3 t1
 obtain ⟨vo, q2, _, w2⟩ := DataW.trod_int Try.underlying3 t2
 obtain ⟨ro, q5, _, w5⟩ := DataW.trod_int Try.underlying3 t5
 obtain ⟨cm, q9, _, w9⟩ := DataW.trod_int Try.underlying3 t9
 simp at q0 q1 q2 q5 q9
 obtain ⟨lb, lt, l, e3, e4, hl, wb, wt⟩ := log_of_trod t3
 obtain ⟨vs, hvs⟩ := arg_boolsS t6
 obtain ⟨nx, hnx⟩ := arg_intsS t7
 obtain ⟨mt, hmt⟩ := arg_intsS t8
 cases n with
 | zero => simp [DataW.trod] at t4
 | succ n =>
 obtain ⟨m1, T1, d1, f1, f2, f3, f4, f5, f6, hm1⟩ := mach_of_trod t4
 obtain ⟨m2, T2, d2, g1, g2, g3, g4, g5, g6, hm2⟩ := mach_of_trod t10
 subst q0 q1 q2 q5 q9 e3 e4 f1 f2 f3 f4 f5 f6 g1 g2 g3 g4 g5 g6
 have hN : NodAt n W ⟨id, te, vo, lb, lt, c5, m1, ro, c13, c14, c15, cm, m2⟩ ⟨l, T1, d1, vs, nx, mt, T2, d2⟩ := ⟨hl, hm1, hvs, hnx, hmt, hm2⟩
 exact ⟨(⟨id, te, vo, lb, lt, c5, m1, ro, c13, c14, c15, cm, m2⟩, ⟨l, T1, d1, vs, nx, mt, T2, d2⟩), rfl, hN.le (by omega)⟩

theorem rpc_of_trod {H : Type} {enc : TypeId × Value → H} {W : World} (fu : Nat) (cl : List Value) (y : DataW H × List MemPlace) (hsz : cl.length = 15)
  (hf : DataW.trod enc Try.prog W 0 (fun _ => true) true fu 82 cl = some y) : ∃ x : RpcE, cl = rpcC x ∧ rpcAt fu W x := by
 obtain ⟨xs, n, hfu, -, -, hlen, hg⟩ := DataW.trod_struct Try.underlying82 hf
 match cl, hsz with
 | [c0, c1, c2, c3, c4, c5, c6, c7, c8, c9, c10, c11, c12, c13, c14], _ =>
 match xs, hlen with
 | [y0, y1, y2, y3, y4, y5, y6, y7, y8, y9], _ =>
 have t0 := hg 0 _ rfl
 have t1 := hg 1 _ rfl
 have t2 := hg 2 _ rfl
 have t3 := hg 3 _ rfl
 have t4 := hg 4 _ rfl
 have t5 := hg 5 _ rfl
 have t6 := hg 6 _ rfl
 have t7 := hg 7 _ rfl
 have t8 := hg 8 _ rfl
 have t9 := hg 9 _ rfl
 simp [Try.cells3, Try.cells4, Try.cells76, Try.cells66] at t0 t1 t2 t3 t4 t5 t6 t7 t8 t9
 obtain ⟨kd, q0, _, _⟩ := DataW.trod_int Try.underlying3 t0
 obtain ⟨fr, q1, _, _⟩ := DataW.trod_int Try.underlying3 t1
 obtain ⟨tt, q2, _, _⟩ := DataW.trod_int Try.underlying3 t2
 obtain ⟨te, q3, _, _⟩ := DataW.trod_int Try.underlying3 t3
 obtain ⟨ix, q4, _, _⟩ := DataW.trod_int Try.underlying3 t4
 obtain ⟨it, q5, _, _⟩ := DataW.trod_int Try.underlying3 t5
 obtain ⟨cm, q6, _, _⟩ := DataW.trod_int Try.underlying3 t6
 obtain ⟨ok, q7, _⟩ := DataW.trod_bool Try.underlying4 t7
 simp at q0 q1 q2 q3 q4 q5 q6 q7
 obtain ⟨l, hl⟩ := arg_entsS (d := y8.1) (p := y8.2) (slice_ofE Try.underlying66 t8) ⟨n, by
  obtain ⟨_, _, _, e⟩ := slice_ofE Try.underlying66 t8
  subst e
  exact t8⟩
 cases n with
 | zero => simp [DataW.trod] at t9
 | succ n =>
 obtain ⟨m1, T1, d1, f1, f2, f3, f4, f5, f6, hm1⟩ := mach_of_trodR t9
 subst q0 q1 q2 q3 q4 q5 q6 q7 f1 f2 f3 f4 f5 f6
 have hR : RpcAt n W ⟨kd, fr, tt, te, ix, it, cm, ok, c8, m1⟩ ⟨l, T1, d1⟩ := ⟨hl, hm1⟩
 exact ⟨(⟨kd, fr, tt, te, ix, it, cm, ok, c8, m1⟩, ⟨l, T1, d1⟩), rfl, hR.le (by omega)⟩

theorem cmd_of_trod {H : Type} {enc : TypeId × Value → H} {W : World} (fu : Nat) (cl : List Value) (y : DataW H × List MemPlace) (hsz : cl.length = 5)
  (hf : DataW.trod enc Try.prog W 0 (fun _ => true) true fu 102 cl = some y) : ∃ x : CmdE, cl = cmdC x ∧ noAt W x := by
 match cl, hsz with
 | [c0, c1, c2, c3, c4], _ =>
 obtain ⟨z0, z1, z2, n2, _, _, u0, u1, u2⟩ := trod_struct3 Try.underlying102 hf
 simp [Try.cells3, Try.cellsW4] at u0 u1 u2
 obtain ⟨x1, q1, _, _⟩ := DataW.trod_int Try.underlying3 u0
 obtain ⟨x2, q2, _, _⟩ := DataW.trod_int Try.underlying3 u1
 obtain ⟨r0, r1, r2, n3, _, _, s0, s1, s2⟩ := trod_struct3 Try.underlying100 u2
 simp [Try.cells3] at s0 s1 s2
 obtain ⟨x3, q3, _, _⟩ := DataW.trod_int Try.underlying3 s0
 obtain ⟨x4, q4, _, _⟩ := DataW.trod_int Try.underlying3 s1
 obtain ⟨x5, q5, _, _⟩ := DataW.trod_int Try.underlying3 s2
 simp at q1 q2 q3 q4 q5
 subst q1 q2 q3 q4 q5
 exact ⟨(x1, x2, x3, x4, x5), rfl, trivial⟩
theorem lead_of_trod {H : Type} {enc : TypeId × Value → H} {W : World} (fu : Nat) (cl : List Value) (y : DataW H × List MemPlace) (hsz : cl.length = 2)
  (hf : DataW.trod enc Try.prog W 0 (fun _ => true) true fu 110 cl = some y) : ∃ x : LedE, cl = ledC x ∧ noAt W x := by
 match cl, hsz with
 | [c0, c1], _ =>
 obtain ⟨z0, z1, n2, _, _, u0, u1⟩ := trod_struct2 Try.underlying110 hf
 simp [Try.cells3] at u0 u1
 obtain ⟨x1, q1, _, _⟩ := DataW.trod_int Try.underlying3 u0
 obtain ⟨x2, q2, _, _⟩ := DataW.trod_int Try.underlying3 u1
 simp at q1 q2
 subst q1 q2
 exact ⟨(x1, x2), rfl, trivial⟩

theorem arg_world {H : Type} {enc : TypeId × Value → H} {W : World} {r : Reach} {b0 : Nat} {v : Value} {d : DataW H} {p : List MemPlace}
  (hv : Value.okWide Try.prog W r b0 28 v) (h : DataW.Trod enc Try.prog W 0 (fun _ => true) true 28 v d p) : ∃ (n : Nat) (V : WrV) (D : Wd), v = V.val ∧ WrAt n W V D ∧ I64 V.sz := by
 obtain ⟨cs, rfl, hsz⟩ := okWide_struct Try.underlying28 hv
 rw [Try.cellsW5] at hsz
 obtain ⟨fuel, hf⟩ := h
 obtain ⟨xs, n, _, -, -, hlen, hg⟩ := DataW.trod_struct Try.underlying28 hf
 obtain ⟨cl⟩ := cs
 match cl, hsz with
 | [c0, c1, c2, c3, c4, c5], _ =>
 match xs, hlen with
 | [y0, y1, y2, y3, y4, y5], _ =>
 have t0 := hg 0 _ rfl
 have t1 := hg 1 _ rfl
 have t2 := hg 2 _ rfl
 have t3 := hg 3 _ rfl
 have t4 := hg 4 _ rfl
 have t5 := hg 5 _ rfl
 simp [Value.cells, Try.cells3, show Try.prog.cellsOf 22 = 1 by kernel_rfl, show Try.prog.cellsOf 23 = 1 by kernel_rfl, show Try.prog.cellsOf 24 = 1 by kernel_rfl, show Try.prog.cellsOf 25 = 1 by kernel_rfl, show Try.prog.cellsOf 26 = 1 by kernel_rfl] at t0 t1 t2 t3 t4 t5
 obtain ⟨sz, q0, _, w0⟩ := DataW.trod_int Try.underlying3 t0
 simp at q0
 obtain ⟨n1, ns, h1⟩ := ls_of_trod (K := 23) (cs := nodC) (At := nodAt) (fun _ => rfl) Try.underlying22 Try.cells79 (by decide) node_of_trod t1
 obtain ⟨n2, rs, h2⟩ := ls_of_trod (K := 15) (cs := rpcC) (At := rpcAt) (fun _ => rfl) Try.underlying23 Try.cellsW3 (by decide) rpc_of_trod t2
 obtain ⟨_, ks, h3⟩ := ls_of_trod (K := 5) (cs := cmdC) (At := fun _ => noAt) (fun _ => rfl) Try.underlying24 Try.cellsW1 (by decide) cmd_of_trod t3
 obtain ⟨l, h4⟩ := arg_donesS (d := y4.1) (p := y4.2) (slice_of Try.underlying25 t4) ⟨n, by
  obtain ⟨_, _, _, e⟩ := slice_of Try.underlying25 t4
  subst e
  exact t4⟩
 obtain ⟨_, ls, h5⟩ := ls_of_trod (K := 2) (cs := ledC) (At := fun _ => noAt) (fun _ => rfl) Try.underlying26 Try.cellsW2 (by decide) lead_of_trod t5
 subst q0
 exact ⟨max n1 n2, ⟨sz, c1, c2, c3, c4, c5⟩, ⟨ns, rs, ks, l, ls⟩, rfl, ⟨⟨h1.1, fun e he => NodAt.le (h1.2 e he) (Nat.le_max_left _ _)⟩, ⟨h2.1, fun e he => RpcAt.le (h2.2 e he) (Nat.le_max_right _ _)⟩, h3, h4, h5⟩, I64.of_wf w0⟩
end
end Go.Proofs.Ythfmifdpldmbaaa
