/-
  Contracts of the program's messages behind an interface, and of its sum at the limit.
-/
import Derived.Test.YtccdleafkhnfmaaGreatPart1
import Derived.Test.YtccdleafkhnfmaaGreatAppend
namespace Go.Proofs.YtccdleafkhnfmaaGreat
open Go.RowKit

theorem limit_eq (x : Int) : max (-1000000000) (min 1000000000 x) = clampI x := by
  unfold clampI; split <;> (try split) <;> omega
set_option maxHeartbeats 400000 in
theorem limitedSum_any (a b : Int) (w : World) (ha0 : -1000000000 ≤ a) (ha1 : a ≤ 1000000000) (hb0 : -1000000000 ≤ b) (hb1 : b ≤ 1000000000) :
    Calls Tryz.prog 85 #[.int .i64 a, .int .i64 b] w fun e w' => e = .returned (.int .i64 (clampI (a + b))) ∧ w' = w := by
  have E : Hid (max (-1000000000) (min 1000000000 (a + b)) = clampI (a + b)) := limit_eq _
  go_enter Tryz.func85, Tryz.ntmps85
  go_wp2
  go_ret
  exact ⟨ret_int E.out, rfl⟩

/-- a message as a value behind the interface -/
def encC (m : Int × Int × Int) : Value :=
  if m.1 = 1 then .iface 125 (.agg #[.int .i64 m.2.1, .int .i64 m.2.2]) else if m.1 = 2 then .iface 127 (.agg #[.int .i64 m.2.1]) else if m.1 = 3 then .iface 129 (.agg #[.int .i64 m.2.1, .int .i64 m.2.2]) else .iface 132 (.agg #[.int .i64 m.2.1])
theorem encC_iface (m : Int × Int × Int) : ∃ t x, encC m = .iface t x := by unfold encC; split <;> (try split) <;> (try split) <;> exact ⟨_, _, rfl⟩
theorem encC_one (m : Int × Int × Int) : (encC m).oneCell' = true := by
  obtain ⟨t, x, h⟩ := encC_iface m; rw [h]; rfl

set_option maxHeartbeats 400000 in
theorem changeOf_any (o k v : Int) (w : World) :
    Calls Tryz.prog 82 #[.agg #[.int .i64 o, .int .i64 k, .int .i64 v]] w fun e w' => e = .returned (encC (o, k, v)) ∧ Below w.heap.size w w' := by
  rcases (show o = 1 ∨ o = 2 ∨ o = 3 ∨ (o ≠ 1 ∧ o ≠ 2 ∧ o ≠ 3) from by omega) with rfl | rfl | rfl | ⟨h1, h2, h3⟩
  · have E : Hid (encC (1, k, v) = .iface 125 (.agg #[.int .i64 k, .int .i64 v])) := rfl
    go_enter Tryz.func82, Tryz.ntmps82
    go_wp2
    go_ret
    exact ⟨by rw [E.out]; rfl, (Below.refl _ _).alloc (Nat.le_refl _) _⟩
  · have E : Hid (encC (2, k, v) = .iface 127 (.agg #[.int .i64 k])) := rfl
    go_enter Tryz.func82, Tryz.ntmps82
    go_wp2
    go_ret
    exact ⟨by rw [E.out]; rfl, (Below.refl _ _).alloc (Nat.le_refl _) _⟩
  · have E : Hid (encC (3, k, v) = .iface 129 (.agg #[.int .i64 k, .int .i64 v])) := rfl
    go_enter Tryz.func82, Tryz.ntmps82
    go_wp2
    go_ret
    exact ⟨by rw [E.out]; rfl, (Below.refl _ _).alloc (Nat.le_refl _) _⟩
  · have E : Hid (encC (o, k, v) = .iface 132 (.agg #[.int .i64 k])) := by show encC _ = _; simp [encC, h1, h2, h3]
    have q1 : (o == 1) = false := by simpa using h1
    have q2 : (o == 2) = false := by simpa using h2
    have q3 : (o == 3) = false := by simpa using h3
    clear h1 h2 h3
    go_enter Tryz.func82, Tryz.ntmps82
    go_wp2
    go_ret
    exact ⟨by rw [E.out]; rfl, (Below.refl _ _).alloc (Nat.le_refl _) _⟩

theorem ta_99_99 (k v : Int) (w : World) : (Instr.typeAssert (.iface 125 (.agg #[.int .i64 k, .int .i64 v])) 105 125 true).run Tryz.prog w = .ok (.tuple #[.agg #[.int .i64 k, .int .i64 v], .bool true]) w := by kernel_rfl
theorem ta_99_105 (k v : Int) (w : World) : (Instr.typeAssert (.iface 125 (.agg #[.int .i64 k, .int .i64 v])) 105 127 true).run Tryz.prog w = .ok (.tuple #[.agg #[.int .i64 0], .bool false]) w := by kernel_rfl
theorem ta_99_101 (k v : Int) (w : World) : (Instr.typeAssert (.iface 125 (.agg #[.int .i64 k, .int .i64 v])) 105 129 true).run Tryz.prog w = .ok (.tuple #[.agg #[.int .i64 0, .int .i64 0], .bool false]) w := by kernel_rfl
theorem ta_99_107 (k v : Int) (w : World) : (Instr.typeAssert (.iface 125 (.agg #[.int .i64 k, .int .i64 v])) 105 132 true).run Tryz.prog w = .ok (.tuple #[.agg #[.int .i64 0], .bool false]) w := by kernel_rfl
theorem ta_105_99 (k : Int) (w : World) : (Instr.typeAssert (.iface 127 (.agg #[.int .i64 k])) 105 125 true).run Tryz.prog w = .ok (.tuple #[.agg #[.int .i64 0, .int .i64 0], .bool false]) w := by kernel_rfl
theorem ta_105_105 (k : Int) (w : World) : (Instr.typeAssert (.iface 127 (.agg #[.int .i64 k])) 105 127 true).run Tryz.prog w = .ok (.tuple #[.agg #[.int .i64 k], .bool true]) w := by kernel_rfl
theorem ta_105_101 (k : Int) (w : World) : (Instr.typeAssert (.iface 127 (.agg #[.int .i64 k])) 105 129 true).run Tryz.prog w = .ok (.tuple #[.agg #[.int .i64 0, .int .i64 0], .bool false]) w := by kernel_rfl
theorem ta_105_107 (k : Int) (w : World) : (Instr.typeAssert (.iface 127 (.agg #[.int .i64 k])) 105 132 true).run Tryz.prog w = .ok (.tuple #[.agg #[.int .i64 0], .bool false]) w := by kernel_rfl
theorem ta_101_99 (k v : Int) (w : World) : (Instr.typeAssert (.iface 129 (.agg #[.int .i64 k, .int .i64 v])) 105 125 true).run Tryz.prog w = .ok (.tuple #[.agg #[.int .i64 0, .int .i64 0], .bool false]) w := by kernel_rfl
theorem ta_101_105 (k v : Int) (w : World) : (Instr.typeAssert (.iface 129 (.agg #[.int .i64 k, .int .i64 v])) 105 127 true).run Tryz.prog w = .ok (.tuple #[.agg #[.int .i64 0], .bool false]) w := by kernel_rfl
theorem ta_101_101 (k v : Int) (w : World) : (Instr.typeAssert (.iface 129 (.agg #[.int .i64 k, .int .i64 v])) 105 129 true).run Tryz.prog w = .ok (.tuple #[.agg #[.int .i64 k, .int .i64 v], .bool true]) w := by kernel_rfl
theorem ta_101_107 (k v : Int) (w : World) : (Instr.typeAssert (.iface 129 (.agg #[.int .i64 k, .int .i64 v])) 105 132 true).run Tryz.prog w = .ok (.tuple #[.agg #[.int .i64 0], .bool false]) w := by kernel_rfl
theorem ta_107_99 (k : Int) (w : World) : (Instr.typeAssert (.iface 132 (.agg #[.int .i64 k])) 105 125 true).run Tryz.prog w = .ok (.tuple #[.agg #[.int .i64 0, .int .i64 0], .bool false]) w := by kernel_rfl
theorem ta_107_105 (k : Int) (w : World) : (Instr.typeAssert (.iface 132 (.agg #[.int .i64 k])) 105 127 true).run Tryz.prog w = .ok (.tuple #[.agg #[.int .i64 0], .bool false]) w := by kernel_rfl
theorem ta_107_101 (k : Int) (w : World) : (Instr.typeAssert (.iface 132 (.agg #[.int .i64 k])) 105 129 true).run Tryz.prog w = .ok (.tuple #[.agg #[.int .i64 0, .int .i64 0], .bool false]) w := by kernel_rfl
theorem ta_107_107 (k : Int) (w : World) : (Instr.typeAssert (.iface 132 (.agg #[.int .i64 k])) 105 132 true).run Tryz.prog w = .ok (.tuple #[.agg #[.int .i64 k], .bool true]) w := by kernel_rfl

theorem Tryz.info105 : (Tryz.prog.info? 105).map (fun i => (i.zero, i.size, i.bytes)) = some (some .nilIface, 1, 16) := by kernel_rfl

def okM (m : Int × Int × Int) : Bool := msgOkB m.1 m.2.1 m.2.2
def okMs (ms : ML) : ML := ms.filter okM
theorem okMs_succ (ms : ML) (k : Nat) (h : k < ms.length) : okMs (ms.take (k + 1)) = if msgOkB (mO ms k) (mK ms k) (mV ms k) = true then okMs (ms.take k) ++ [(mO ms k, mK ms k, mV ms k)] else okMs (ms.take k) := by
  rw [take_succM ms k h, okMs, List.filter_append]
  by_cases hm : msgOkB (mO ms k) (mK ms k) (mV ms k) = true
  · simp [hm, okMs, okM]
  · simp [hm, okMs, okM]
theorem okMs_length (ms : ML) : (okMs ms).length ≤ ms.length := List.length_filter_le _ _

set_option maxRecDepth 100000 in
set_option maxHeartbeats 2000000 in
theorem changesOf_any (vm : Value) (ms : ML) (w : World) (hm : Row w vm ms.length (flatM ms)) (hn : ms.length ≤ 2097152) :
    Calls Tryz.prog 59 #[vm] w fun e w' => ∃ v', e = .returned v' ∧ w'.ownsRow w.heap.size 105 1 v' (okMs ms).length ((okMs ms).map encC) ∧ Below w.heap.size w w' := by
  obtain ⟨i0, hi, hz0, hz1, hz2⟩ := info_parts Tryz.info105
  obtain ⟨a, b, off, cap, rfl, hcap, hmax, ha, ho, hk, hv⟩ := hm.msgs
  unfold maxLen at hmax
  go_enter Tryz.func59, Tryz.ntmps59
  go_wp2
  go_loopw [3, 8] (fun out i wr => ∃ k : Nat, k ≤ ms.length ∧ i = .int .i64 k ∧ wr.ownsRow w.heap.size 105 1 out (okMs (ms.take k)).length ((okMs (ms.take k)).map encC) ∧ Below w.heap.size w wr)
    (fun _ i _ => ms.length - (intOf i).toNat)
  case atStart => exact ⟨0, Nat.zero_le _, rfl, World.ownsRow_nil _ _ _ _, Below.refl _ _⟩
  case round =>
    obtain ⟨k, hkl, rfl, hown, hb⟩ := hrel
    by_cases hlt : k < ms.length
    · have hal := ha (by omega)
      subst hal
      have d0 := (hb.cell (by exact cell_lt (ho k hlt))).trans (ho k hlt)
      have d1 := (hb.cell (by exact cell_lt (hk k hlt))).trans (hk k hlt)
      have d2 := (hb.cell (by exact cell_lt (hv k hlt))).trans (hv k hlt)
      have hds := okMs_succ ms k hlt
      have hal := okMs_length (ms.take k)
      have htl : (ms.take k).length ≤ k := List.length_take_le _ _
      generalize okMs (ms.take k) = A at *
      have ba : Below w.heap.size w (wr.alloc (.cells #[.int .i64 (mO ms k), .int .i64 (mK ms k), .int .i64 (mV ms k)] 79)) := hb.alloc hb.size _
      have OW : Hid (wr.ownsRow w.heap.size 105 1 u3 A.length (A.map encC)) := hown
      clear ho hk hv hown hm
      cases hq : msgOkB (mO ms k) (mK ms k) (mV ms k)
      · have DS : Hid _ := hds.trans (if_neg (by rw [hq]; decide))
        clear hds
        go_wp2_with fail
        refine (implMsgOk_any _ _ _ _).mono ?_
        rw [hq]
        rintro e w1 ⟨rfl, b1⟩
        have B1 := ba.trans (b1.mono ba.size)
        have OW1 := owns_below (OW.out.alloc (.cells #[.int .i64 (mO ms k), .int .i64 (mK ms k), .int .i64 (mV ms k)] 79)) b1
        clear b1 ba hq
        go_wp2
        go_roundw
        case rel => exact ⟨k + 1, by omega, by go_num, by rw [DS.out]; exact OW1, B1⟩
        case measure => simp [intOf]; omega
      · have DS : Hid _ := hds.trans (if_pos hq)
        clear hds
        go_wp2_with fail
        refine (implMsgOk_any _ _ _ _).mono ?_
        rw [hq]
        rintro e w1 ⟨rfl, b1⟩
        have B1 := ba.trans (b1.mono ba.size)
        have OW1 := owns_below (OW.out.alloc (.cells #[.int .i64 (mO ms k), .int .i64 (mK ms k), .int .i64 (mV ms k)] 79)) b1
        obtain ⟨hc, _⟩ := bcell b1
        have b1' : Hid _ := b1
        have OW1' : Hid (w1.ownsRow w.heap.size 105 1 u3 A.length (A.map encC)) := OW1
        clear b1 ba hq OW1 OW
        go_wp2_with fail
        refine (changeOf_any _ _ _ _).mono ?_
        rintro e w2 ⟨rfl, b2⟩
        have B2 := B1.trans (b2.mono B1.size)
        have B2s := B2.size
        have OW2 := owns_below OW1'.out b2
        obtain ⟨t, x, hx⟩ := encC_iface (mO ms k, mK ms k, mV ms k)
        have HX : Hid _ := hx
        have HE : Hid _ := encC_one (mO ms k, mK ms k, mV ms k)
        rw [hx]
        clear hx hc b1' OW1' b2 B1
        have HR : Hid _ := room_of (n := A.length) (bytes := 16) (by omega) (by decide)
        have H1 : Hid (∀ u ∈ [Value.iface t x], u.oneCell' = true) := fun u hu => by simp at hu; subst hu; rfl
        go_wp2_with (at_builtin; refine app_one w2 rfl _ _ 102 rfl w.heap.size 105 i0 _ 1 16 Tryz.underlying102 hi hz0 hz1 hz2 rfl (by decide) u3 _ _ rfl OW2 [.iface t x] rfl rfl H1.out HR.out.1 HR.out.2 B2s ?_)
        intro v3 w3 ho3 _ hb3
        have B3 := B2.trans hb3
        clear OW2 hb3 B2
        go_wp2
        go_roundw
        case rel => exact ⟨k + 1, by omega, by go_num, by rw [DS.out, List.length_append, List.map_append, List.map_cons, HX.out]; exact ho3, B3⟩
        case measure => simp [intOf]; omega
    · go_wp2
      go_ret
      have hkk : k = ms.length := by omega
      subst hkk
      rw [List.take_of_length_le (Nat.le_refl _)] at hown
      exact ⟨_, rfl, hown, hb⟩

end Go.Proofs.YtccdleafkhnfmaaGreat
