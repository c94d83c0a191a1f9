/-
  The text that the laws mark a string with.
-/
import Derived.Test.YtmpngehhojlmmaaStrs
import Derived.Laws.BytesArg
import Derived.Laws.Concat
namespace Go.Proofs.Ytmpngehhojlmmaa
open Go.RowKit

def dgS (f : Nat) (k : Nat) (out : ByteArray) : ByteArray := match f with
  | 0 => out
  | f + 1 => if k = 0 then out else dgS f (k / 10) (strOfNums [48 + (k : Int) % 10] ++ out)

theorem conv_one (W : World) (x : Int) : (convert 22 9 (.slice (some ⟨W.heap.size, 0, none⟩) 1 1)).run Try.prog (W.alloc (.cells #[.int .u8 x] 5)) = .ok (.string (strOfNums [x])) (W.alloc (.cells #[.int .u8 x] 5)) :=
  run_convert_bytes_arg _ 22 5 Try.underlying22 Try.underlying5 W.heap.size 0 1 1 [x] rfl (fun i hi => by
    have : i = 0 := by omega
    subst this
    rw [cell_of_cells (heap_alloc_new W _)]; rfl) 9 Try.underlying9

set_option maxRecDepth 100000 in
set_option maxHeartbeats 400000 in
theorem markText_any (k : Int) (hk : 0 < k) (hk2 : k ≤ 8000000) (w : World) :
    Calls Try.prog 45 #[.int .i64 k] w fun e w' => e = .returned (.string (⟨#[109]⟩ ++ dgS k.toNat k.toNat ⟨#[]⟩)) ∧ Below w.heap.size w w' := by
  go_enter Try.func45, Try.ntmps45
  go_wp2
  go_loopw [0, 3] (fun x o wr => ∃ (f n : Nat) (out : ByteArray), x = .int .i64 n ∧ o = .string out ∧ n ≤ f ∧ out.size + n ≤ 8000000 ∧ dgS f n out = dgS k.toNat k.toNat ⟨#[]⟩ ∧ Below w.heap.size w wr) (fun x _ _ => (intOf x).toNat)
  case atStart => exact ⟨k.toNat, k.toNat, ⟨#[]⟩, by rw [show ((k.toNat : Nat) : Int) = k by omega], rfl, Nat.le_refl _, by show 0 + k.toNat ≤ 8000000; omega, rfl, Below.refl _ _⟩
  case round =>
    obtain ⟨f, n, out, rfl, rfl, hf, hn, hd, hb⟩ := hrel
    have HD : Hid _ := hd
    have HB : Hid _ := hb
    clear hd hb
    by_cases h0 : n = 0
    · subst h0
      have hadd : ∀ W, (Op.stringOp .add ⟨#[109]⟩ out).run Try.prog W = .ok (.string (⟨#[109]⟩ ++ out)) W := fun W => run_string_add W _ _ (by decide) (by omega)
      go_wp2
      go_ret
      refine ⟨?_, HB.out⟩
      have := HD.out
      have e : dgS f 0 out = out := by cases f <;> simp [dgS]
      rw [e] at this
      rw [← this]
      rfl
    · obtain ⟨f', rfl⟩ : ∃ f', f = f' + 1 := ⟨f - 1, by omega⟩
      have HN : Hid (dgS f' (n / 10) (strOfNums [48 + (n : Int) % 10] ++ out) = dgS k.toNat k.toNat ⟨#[]⟩) := by
        have := HD.out
        simp only [dgS] at this
        rw [if_neg h0] at this
        exact this
      clear HD
      have hs1 : (strOfNums [48 + (n : Int) % 10]).size = 1 := rfl
      have HS : Hid ((strOfNums [48 + (n : Int) % 10] ++ out).size = 1 + out.size) := by rw [ByteArray.size_append, hs1]; exact rfl
      have hd : 48 + (n : Int) % 10 < 256 := by omega
      have hd0 : 0 ≤ 48 + (n : Int) % 10 := by omega
      have hcv := fun W => conv_one W (48 + (n : Int) % 10)
      have hadd : ∀ W, (Op.stringOp .add (strOfNums [48 + (n : Int) % 10]) out).run Try.prog W = .ok (.string (strOfNums [48 + (n : Int) % 10] ++ out)) W := fun W => run_string_add W _ _ (by rw [hs1]; decide) (by omega)
      clear hs1
      go_wp2
      go_roundw
      case rel => exact ⟨f', n / 10, _, by go_num, rfl, by omega, by rw [HS.out]; omega, HN.out, HB.out.alloc HB.out.size _⟩
      case measure => simp [intOf]; omega

def markT (k : Int) : ByteArray := ⟨#[109]⟩ ++ dgS k.toNat k.toNat ⟨#[]⟩
theorem mark_text (k : Int) (hk : 0 < k) (hk2 : k ≤ 8000000) (w : World) : Calls Try.prog 45 #[.int .i64 k] w fun e w' => e = .returned (.string (markT k)) ∧ Below w.heap.size w w' := markText_any k hk hk2 w

end Go.Proofs.Ytmpngehhojlmmaa
