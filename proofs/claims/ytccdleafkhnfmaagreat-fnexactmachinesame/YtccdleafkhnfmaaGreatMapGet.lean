/-
  Contracts of MapGet, the model's and the program's.
-/
import Derived.Test.YtccdleafkhnfmaaGreatPart1
namespace Go.Proofs.YtccdleafkhnfmaaGreat
open Go.RowKit

theorem ret_two {a b : Int} {c d : Bool} {q : Int × Bool} (h : q = (a, c)) (h2 : b = a) (h3 : d = c) : Ending.returned (.tuple #[.int .i64 b, .bool d]) = .returned (.tuple #[.int .i64 q.1, .bool q.2]) := by rw [h, h2, h3]

set_option maxHeartbeats 1000000 in
theorem specMapGet_any (v : Value) (l : List (Int × Int)) (x : Int) (w : World) (h : Row w v l.length (flatP l)) :
    Calls Tryz.prog 68 #[v, .int .i64 x] w fun e w' => e = .returned (.tuple #[.int .i64 (getP l x).1, .bool (getP l x).2]) ∧ w' = w := by
  obtain ⟨a, b, off, cap, rfl, hcap, hmax, ha, hk, hv⟩ := h.pairs
  unfold maxLen at hmax
  go_enter Tryz.func68, Tryz.ntmps68
  go_wp2
  go_loop [6] (fun i => ∃ k : Nat, k ≤ l.length ∧ i = .int .i64 k ∧ (∀ j, j < k → kOf l j ≠ x))
    (fun i => l.length - (intOf i).toNat)
  case atStart => exact ⟨0, Nat.zero_le _, rfl, fun i hi => absurd hi (Nat.not_lt_zero _)⟩
  case round =>
    obtain ⟨k, hkl, rfl, hall⟩ := hrel
    have ALL : Hid (∀ j, j < k → kOf l j ≠ x) := hall
    clear hall
    by_cases hlt : k < l.length
    · have hal := ha (by omega)
      subst hal
      have d0 := hk k hlt
      have d1 := hv k hlt
      by_cases hx : kOf l k = x
      · have G : Hid (getP l x = (vOf l k, true)) := getP_hit hlt ALL.out hx
        have hq : (kOf l k == x) = true := by simpa using hx
        clear hk hv hx
        go_wp2
        go_ret2
        exact ⟨ret_two G.out rfl rfl, rfl⟩
      · have hq : (kOf l k == x) = false := by simpa using hx
        have HX : Hid (kOf l k ≠ x) := hx
        clear hk hv hx
        go_wp2
        go_round
        case rel => exact ⟨k + 1, by omega, by go_num, fun i hi => if h : i < k then ALL.out i h else by rw [show i = k by omega]; exact HX.out⟩
        case measure => simp [intOf]; omega
    · have G : Hid (getP l x = (0, false)) := getP_none (fun j hj => ALL.out j (by omega))
      go_wp2
      go_ret2
      exact ⟨ret_two G.out rfl rfl, rfl⟩

end Go.Proofs.YtccdleafkhnfmaaGreat
