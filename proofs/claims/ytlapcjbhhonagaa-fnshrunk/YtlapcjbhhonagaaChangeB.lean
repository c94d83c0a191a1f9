/-
  Contracts of the program's messages behind their interface: key and msg, whatever message it is.
-/
import Derived.Test.YtlapcjbhhonagaaMathShrink
import Derived.Test.YtlapcjbhhonagaaImplMap
namespace Go.Proofs.Ytlapcjbhhonagaa
open Go.RowKit

theorem meth_key_99 (k v : Int) (w : World) : (method 234 99 (.agg #[.int .i64 k, .int .i64 v]) "loop.example/g00234/impl.key").run Try.prog w = .ok (105, .agg #[.int .i64 k, .int .i64 v]) w := by kernel_rfl
theorem enter_105 (x : Value) (w : World) : (callFunc 105 #[x]).run Try.prog w = .ok (.enter 105 #[x]) w := by kernel_rfl
theorem meth_msg_99 (k v : Int) (w : World) : (method 234 99 (.agg #[.int .i64 k, .int .i64 v]) "loop.example/g00234/impl.msg").run Try.prog w = .ok (106, .agg #[.int .i64 k, .int .i64 v]) w := by kernel_rfl
theorem enter_106 (x : Value) (w : World) : (callFunc 106 #[x]).run Try.prog w = .ok (.enter 106 #[x]) w := by kernel_rfl
set_option maxHeartbeats 400000 in
theorem key_99 (k v : Int) (w : World) : Calls Try.prog 105 #[.agg #[.int .i64 k, .int .i64 v]] w fun e w' => e = .returned (.int .i64 k) ∧ Below w.heap.size w w' := by
  go_enter Try.func105, Try.ntmps105
  go_wp2
  go_ret
  exact ⟨rfl, (Below.refl _ _).alloc (Nat.le_refl _) _⟩
set_option maxHeartbeats 400000 in
theorem msg_99 (k v : Int) (w : World) : Calls Try.prog 106 #[.agg #[.int .i64 k, .int .i64 v]] w fun e w' => e = .returned (.agg #[.int .i64 1, .int .i64 k, .int .i64 v]) ∧ Below w.heap.size w w' := by
  go_enter Try.func106, Try.ntmps106
  go_wp2
  refine bodyPost_ret (v := .agg #[.int .i64 1, .int .i64 k, .int .i64 v]) (by simp [results, Try.results106, go_sem]) rfl ⟨rfl, ?_⟩
  exact ((Below.refl _ _).alloc (Nat.le_refl _) _).alloc (by simp) _
theorem meth_key_101 (k v : Int) (w : World) : (method 234 101 (.agg #[.int .i64 k, .int .i64 v]) "loop.example/g00234/impl.key").run Try.prog w = .ok (107, .agg #[.int .i64 k, .int .i64 v]) w := by kernel_rfl
theorem enter_107 (x : Value) (w : World) : (callFunc 107 #[x]).run Try.prog w = .ok (.enter 107 #[x]) w := by kernel_rfl
theorem meth_msg_101 (k v : Int) (w : World) : (method 234 101 (.agg #[.int .i64 k, .int .i64 v]) "loop.example/g00234/impl.msg").run Try.prog w = .ok (108, .agg #[.int .i64 k, .int .i64 v]) w := by kernel_rfl
theorem enter_108 (x : Value) (w : World) : (callFunc 108 #[x]).run Try.prog w = .ok (.enter 108 #[x]) w := by kernel_rfl
set_option maxHeartbeats 400000 in
theorem key_101 (k v : Int) (w : World) : Calls Try.prog 107 #[.agg #[.int .i64 k, .int .i64 v]] w fun e w' => e = .returned (.int .i64 k) ∧ Below w.heap.size w w' := by
  go_enter Try.func107, Try.ntmps107
  go_wp2
  go_ret
  exact ⟨rfl, (Below.refl _ _).alloc (Nat.le_refl _) _⟩
set_option maxHeartbeats 400000 in
theorem msg_101 (k v : Int) (w : World) : Calls Try.prog 108 #[.agg #[.int .i64 k, .int .i64 v]] w fun e w' => e = .returned (.agg #[.int .i64 3, .int .i64 k, .int .i64 v]) ∧ Below w.heap.size w w' := by
  go_enter Try.func108, Try.ntmps108
  go_wp2
  refine bodyPost_ret (v := .agg #[.int .i64 3, .int .i64 k, .int .i64 v]) (by simp [results, Try.results108, go_sem]) rfl ⟨rfl, ?_⟩
  exact ((Below.refl _ _).alloc (Nat.le_refl _) _).alloc (by simp) _
theorem meth_key_105 (k : Int) (w : World) : (method 234 105 (.agg #[.int .i64 k]) "loop.example/g00234/impl.key").run Try.prog w = .ok (109, .agg #[.int .i64 k]) w := by kernel_rfl
theorem enter_109 (x : Value) (w : World) : (callFunc 109 #[x]).run Try.prog w = .ok (.enter 109 #[x]) w := by kernel_rfl
theorem meth_msg_105 (k : Int) (w : World) : (method 234 105 (.agg #[.int .i64 k]) "loop.example/g00234/impl.msg").run Try.prog w = .ok (110, .agg #[.int .i64 k]) w := by kernel_rfl
theorem enter_110 (x : Value) (w : World) : (callFunc 110 #[x]).run Try.prog w = .ok (.enter 110 #[x]) w := by kernel_rfl
set_option maxHeartbeats 400000 in
theorem key_105 (k : Int) (w : World) : Calls Try.prog 109 #[.agg #[.int .i64 k]] w fun e w' => e = .returned (.int .i64 k) ∧ Below w.heap.size w w' := by
  go_enter Try.func109, Try.ntmps109
  go_wp2
  go_ret
  exact ⟨rfl, (Below.refl _ _).alloc (Nat.le_refl _) _⟩
set_option maxHeartbeats 400000 in
theorem msg_105 (k : Int) (w : World) : Calls Try.prog 110 #[.agg #[.int .i64 k]] w fun e w' => e = .returned (.agg #[.int .i64 2, .int .i64 k, .int .i64 0]) ∧ Below w.heap.size w w' := by
  go_enter Try.func110, Try.ntmps110
  go_wp2
  refine bodyPost_ret (v := .agg #[.int .i64 2, .int .i64 k, .int .i64 0]) (by simp [results, Try.results110, go_sem]) rfl ⟨rfl, ?_⟩
  exact ((Below.refl _ _).alloc (Nat.le_refl _) _).alloc (by simp) _
theorem meth_key_107 (k : Int) (w : World) : (method 234 107 (.agg #[.int .i64 k]) "loop.example/g00234/impl.key").run Try.prog w = .ok (111, .agg #[.int .i64 k]) w := by kernel_rfl
theorem enter_111 (x : Value) (w : World) : (callFunc 111 #[x]).run Try.prog w = .ok (.enter 111 #[x]) w := by kernel_rfl
theorem meth_msg_107 (k : Int) (w : World) : (method 234 107 (.agg #[.int .i64 k]) "loop.example/g00234/impl.msg").run Try.prog w = .ok (112, .agg #[.int .i64 k]) w := by kernel_rfl
theorem enter_112 (x : Value) (w : World) : (callFunc 112 #[x]).run Try.prog w = .ok (.enter 112 #[x]) w := by kernel_rfl
set_option maxHeartbeats 400000 in
theorem key_107 (k : Int) (w : World) : Calls Try.prog 111 #[.agg #[.int .i64 k]] w fun e w' => e = .returned (.int .i64 k) ∧ Below w.heap.size w w' := by
  go_enter Try.func111, Try.ntmps111
  go_wp2
  go_ret
  exact ⟨rfl, (Below.refl _ _).alloc (Nat.le_refl _) _⟩
set_option maxHeartbeats 400000 in
theorem msg_107 (k : Int) (w : World) : Calls Try.prog 112 #[.agg #[.int .i64 k]] w fun e w' => e = .returned (.agg #[.int .i64 4, .int .i64 k, .int .i64 0]) ∧ Below w.heap.size w w' := by
  go_enter Try.func112, Try.ntmps112
  go_wp2
  refine bodyPost_ret (v := .agg #[.int .i64 4, .int .i64 k, .int .i64 0]) (by simp [results, Try.results112, go_sem]) rfl ⟨rfl, ?_⟩
  exact ((Below.refl _ _).alloc (Nat.le_refl _) _).alloc (by simp) _

/-- what a change is, whichever: its key, its message, and what it is told to be -/
structure Chd (m : Int × Int × Int) (t : TypeId) (x : Value) (f g : FuncId) : Prop where
  enc : encC m = .iface t x
  hk : ∀ w, (method 234 t x "loop.example/g00234/impl.key").run Try.prog w = .ok (f, x) w
  ek : ∀ w, (callFunc f #[x]).run Try.prog w = .ok (.enter f #[x]) w
  ck : ∀ w, Calls Try.prog f #[x] w fun e w' => e = .returned (.int .i64 m.2.1) ∧ Below w.heap.size w w'
  hm : ∀ w, (method 234 t x "loop.example/g00234/impl.msg").run Try.prog w = .ok (g, x) w
  em : ∀ w, (callFunc g #[x]).run Try.prog w = .ok (.enter g #[x]) w
  cm : ∀ w, Calls Try.prog g #[x] w fun e w' => e = .returned (.agg #[.int .i64 m.1, .int .i64 m.2.1, .int .i64 m.2.2]) ∧ Below w.heap.size w w'
  t99 : ∃ z, ∀ w, (Instr.typeAssert (.iface t x) 69 99 true).run Try.prog w = .ok (.tuple #[z, .bool (m.1 == 1)]) w
  t105 : ∃ z, ∀ w, (Instr.typeAssert (.iface t x) 69 105 true).run Try.prog w = .ok (.tuple #[z, .bool (m.1 == 2)]) w
  t107 : ∃ z, ∀ w, (Instr.typeAssert (.iface t x) 69 107 true).run Try.prog w = .ok (.tuple #[z, .bool (m.1 == 4)]) w

theorem okM_v0 {k v : Int} {o : Int} (ho : o = 2 ∨ o = 4) (h : okM (o, k, v) = true) : v = 0 := by
  have h' : msgOkB o k v = true := h
  simp only [msgOkB, Bool.and_eq_true, Bool.or_eq_true, beq_iff_eq] at h'
  omega

theorem chd_of {m : Int × Int × Int} (h : okM m = true) : ∃ t x f g, Chd m t x f g := by
  obtain ⟨o, k, v⟩ := m
  have ho := (msgOkB_in h).1
  rcases (show o = 1 ∨ o = 2 ∨ o = 3 ∨ o = 4 from by simp only at ho; omega) with rfl | rfl | rfl | rfl
  · exact ⟨99, _, 105, 106, rfl, meth_key_99 k v, enter_105 _, key_99 k v, meth_msg_99 k v, enter_106 _, msg_99 k v, ⟨_, ta_99_99 k v⟩, ⟨_, ta_99_105 k v⟩, ⟨_, ta_99_107 k v⟩⟩
  · have hv := okM_v0 (Or.inl rfl) h
    subst hv
    exact ⟨105, _, 109, 110, rfl, meth_key_105 k, enter_109 _, key_105 k, meth_msg_105 k, enter_110 _, msg_105 k, ⟨_, ta_105_99 k⟩, ⟨_, ta_105_105 k⟩, ⟨_, ta_105_107 k⟩⟩
  · exact ⟨101, _, 107, 108, rfl, meth_key_101 k v, enter_107 _, key_101 k v, meth_msg_101 k v, enter_108 _, msg_101 k v, ⟨_, ta_101_99 k v⟩, ⟨_, ta_101_105 k v⟩, ⟨_, ta_101_107 k v⟩⟩
  · have hv := okM_v0 (Or.inr rfl) h
    subst hv
    exact ⟨107, _, 111, 112, rfl, meth_key_107 k, enter_111 _, key_107 k, meth_msg_107 k, enter_112 _, msg_107 k, ⟨_, ta_107_99 k⟩, ⟨_, ta_107_105 k⟩, ⟨_, ta_107_107 k⟩⟩

/-- the cells of a list of changes -/
theorem Row.changes {w : World} {v : Value} {l : ML} (h : Row w v l.length (l.map encC)) :
    ∃ (a : Option Addr) (b off cap : Nat), v = .slice a l.length cap ∧ l.length ≤ cap ∧ cap ≤ maxLen ∧ (0 < l.length → a = some ⟨b, off, none⟩) ∧ (∀ i, i < l.length → w.cell? ⟨b, off + i, none⟩ = some (encC (mO l i, mK l i, mV l i))) := by
  obtain ⟨a, b, off, cap, h1, h2, h3, h4, h5, _⟩ := h
  exact ⟨a, b, off, cap, h1, h2, h3, h4, fun i hi => h5 _ _ (by rw [List.getElem?_map, List.getElem?_eq_getElem hi, ml_at l i hi]; rfl)⟩

end Go.Proofs.Ytlapcjbhhonagaa
