/-
  No cell of these rows narrows 'for every input' (looked for: loops, veiled, ifaces, maps, wideKeys, modest, calm, conditions, laid).
  DERIVED. THE GIVEN ROWS OF THIS SEAT. 9 by the template 'for every input the law returns true; each argument reads behind the call as it read before'; 0 by the template 'total and deterministic' (their statements: YtlapcjbhhonagaaTotals.lean).
  GIVEN WITH THE SEED: the statements are not yours to turn. If you find one false, say at which input.
  Laid BY PROGRAM, IN A SANDBOX (cutbox-rows.mjs): the forced cells as the released guide's own fill.sh prints them over the translation bf4e9581a68d4d52… (all of the seat's roots in one cut). By AI agents, Wed Nov 11 2026. No macro, syntax, notation, axiom, sorry.
-/
import Derived.Test.YtlapcjbhhonagaaChecked
import GoSem.Claim
import GoSem.ClaimJoined
import GoSem.ClaimMapViews
import Derived.JoinedTies
import Derived.KernelRfl
namespace Go.Proofs.Ytlapcjbhhonagaa
/- THE CELL 'sum', in the pinned program and in every row, IS THE sha256 OF THE DUMP (.gsa) THAT YtlapcjbhhonagaaProg.lean LOADS. Nothing in Lean hashes anything: it is a label: what it is worth is what the hold of that sum in a sandbox is worth. -/
noncomputable def Try.pinned : Pinned := { name := "ytlapcjbhhonagaa", sum := "bf4e9581a68d4d52ebf4e00573cdf91c04028938124b40ccfe48ef813f2912ab", checked := Try.checked }
namespace Rows
def none {H : Type} : Left H := { results := [], args := [] }

/-- 'laws.FnShrunk': WHATEVER THE INPUT: true; the input reads as it did. -/
def fnShrunkSpec : ChangeSpec := { name := "fnShrunk", fn := fun _ => fun
  | [d] => { results := [.lit (.bool true)], args := [d] }
  | _ => none }
def fnShrunkRow : OpenClaim := { program := "ytlapcjbhhonagaa", sum := "bf4e9581a68d4d52ebf4e00573cdf91c04028938124b40ccfe48ef813f2912ab", func := "loop.example/g00234/laws.FnShrunk", spec := "fnShrunk", inPlace := ["slices.overlaps[int]"], unfollowed := true, recurses := true, apart := false }
def FnShrunkSaid : Prop := fnShrunkRow.holds Try.pinned (OpenSpec.ofChange fnShrunkSpec)

/-- ITS FALSE NEIGHBOUR: 'it returns false'. Refute it at one input. -/
def fnShrunkWrong : ChangeSpec := { name := "fnShrunk", fn := fun _ => fun
  | [d] => { results := [.lit (.bool false)], args := [d] }
  | _ => none }
def FnShrunkWrongFalsely : Prop := fnShrunkRow.holds Try.pinned (OpenSpec.ofChange fnShrunkWrong)

/-- 'laws.FnMapped': WHATEVER THE INPUT: true; the input reads as it did. -/
def fnMappedSpec : ChangeSpec := { name := "fnMapped", fn := fun _ => fun
  | [d] => { results := [.lit (.bool true)], args := [d] }
  | _ => none }
def fnMappedRow : OpenClaim := { program := "ytlapcjbhhonagaa", sum := "bf4e9581a68d4d52ebf4e00573cdf91c04028938124b40ccfe48ef813f2912ab", func := "loop.example/g00234/laws.FnMapped", spec := "fnMapped", inPlace := ["slices.overlaps[int]"], apart := false }
def FnMappedSaid : Prop := fnMappedRow.holds Try.pinned (OpenSpec.ofChange fnMappedSpec)

/-- ITS FALSE NEIGHBOUR: 'it returns false'. Refute it at one input. -/
def fnMappedWrong : ChangeSpec := { name := "fnMapped", fn := fun _ => fun
  | [d] => { results := [.lit (.bool false)], args := [d] }
  | _ => none }
def FnMappedWrongFalsely : Prop := fnMappedRow.holds Try.pinned (OpenSpec.ofChange fnMappedWrong)

/-- 'laws.FnMapAll': WHATEVER THE INPUT: true; the input reads as it did. -/
def fnMapAllSpec : ChangeSpec := { name := "fnMapAll", fn := fun _ => fun
  | [d] => { results := [.lit (.bool true)], args := [d] }
  | _ => none }
def fnMapAllRow : OpenClaim := { program := "ytlapcjbhhonagaa", sum := "bf4e9581a68d4d52ebf4e00573cdf91c04028938124b40ccfe48ef813f2912ab", func := "loop.example/g00234/laws.FnMapAll", spec := "fnMapAll", inPlace := ["slices.overlaps[int]"], apart := false }
def FnMapAllSaid : Prop := fnMapAllRow.holds Try.pinned (OpenSpec.ofChange fnMapAllSpec)

/-- ITS FALSE NEIGHBOUR: 'it returns false'. Refute it at one input. -/
def fnMapAllWrong : ChangeSpec := { name := "fnMapAll", fn := fun _ => fun
  | [d] => { results := [.lit (.bool false)], args := [d] }
  | _ => none }
def FnMapAllWrongFalsely : Prop := fnMapAllRow.holds Try.pinned (OpenSpec.ofChange fnMapAllWrong)

/-- 'laws.FnExactMsgOk': WHATEVER THE INPUT: true; the input reads as it did. -/
def fnExactMsgOkSpec : ChangeSpec := { name := "fnExactMsgOk", fn := fun _ => fun
  | [d] => { results := [.lit (.bool true)], args := [d] }
  | _ => none }
def fnExactMsgOkRow : OpenClaim := { program := "ytlapcjbhhonagaa", sum := "bf4e9581a68d4d52ebf4e00573cdf91c04028938124b40ccfe48ef813f2912ab", func := "loop.example/g00234/laws.FnExactMsgOk", spec := "fnExactMsgOk", apart := false }
def FnExactMsgOkSaid : Prop := fnExactMsgOkRow.holds Try.pinned (OpenSpec.ofChange fnExactMsgOkSpec)

/-- ITS FALSE NEIGHBOUR: 'it returns false'. Refute it at one input. -/
def fnExactMsgOkWrong : ChangeSpec := { name := "fnExactMsgOk", fn := fun _ => fun
  | [d] => { results := [.lit (.bool false)], args := [d] }
  | _ => none }
def FnExactMsgOkWrongFalsely : Prop := fnExactMsgOkRow.holds Try.pinned (OpenSpec.ofChange fnExactMsgOkWrong)

/-- 'laws.FnExactMapOk': WHATEVER THE INPUT: true; the input reads as it did. -/
def fnExactMapOkSpec : ChangeSpec := { name := "fnExactMapOk", fn := fun _ => fun
  | [d] => { results := [.lit (.bool true)], args := [d] }
  | _ => none }
def fnExactMapOkRow : OpenClaim := { program := "ytlapcjbhhonagaa", sum := "bf4e9581a68d4d52ebf4e00573cdf91c04028938124b40ccfe48ef813f2912ab", func := "loop.example/g00234/laws.FnExactMapOk", spec := "fnExactMapOk", apart := false }
def FnExactMapOkSaid : Prop := fnExactMapOkRow.holds Try.pinned (OpenSpec.ofChange fnExactMapOkSpec)

/-- ITS FALSE NEIGHBOUR: 'it returns false'. Refute it at one input. -/
def fnExactMapOkWrong : ChangeSpec := { name := "fnExactMapOk", fn := fun _ => fun
  | [d] => { results := [.lit (.bool false)], args := [d] }
  | _ => none }
def FnExactMapOkWrongFalsely : Prop := fnExactMapOkRow.holds Try.pinned (OpenSpec.ofChange fnExactMapOkWrong)

/-- 'laws.FnExactMapGet': WHATEVER THE INPUT: true; the input reads as it did. -/
def fnExactMapGetSpec : ChangeSpec := { name := "fnExactMapGet", fn := fun _ => fun
  | [d1, d2] => { results := [.lit (.bool true)], args := [d1, d2] }
  | _ => none }
def fnExactMapGetRow : OpenClaim := { program := "ytlapcjbhhonagaa", sum := "bf4e9581a68d4d52ebf4e00573cdf91c04028938124b40ccfe48ef813f2912ab", func := "loop.example/g00234/laws.FnExactMapGet", spec := "fnExactMapGet", apart := false }
def FnExactMapGetSaid : Prop := fnExactMapGetRow.holds Try.pinned (OpenSpec.ofChange fnExactMapGetSpec)

/-- ITS FALSE NEIGHBOUR: 'it returns false'. Refute it at one input. -/
def fnExactMapGetWrong : ChangeSpec := { name := "fnExactMapGet", fn := fun _ => fun
  | [d1, d2] => { results := [.lit (.bool false)], args := [d1, d2] }
  | _ => none }
def FnExactMapGetWrongFalsely : Prop := fnExactMapGetRow.holds Try.pinned (OpenSpec.ofChange fnExactMapGetWrong)

/-- 'laws.FnExactMapDo': WHATEVER THE INPUT: true; the input reads as it did. -/
def fnExactMapDoSpec : ChangeSpec := { name := "fnExactMapDo", fn := fun _ => fun
  | [d1, d2] => { results := [.lit (.bool true)], args := [d1, d2] }
  | _ => none }
def fnExactMapDoRow : OpenClaim := { program := "ytlapcjbhhonagaa", sum := "bf4e9581a68d4d52ebf4e00573cdf91c04028938124b40ccfe48ef813f2912ab", func := "loop.example/g00234/laws.FnExactMapDo", spec := "fnExactMapDo", inPlace := ["slices.overlaps[int]"], apart := false }
def FnExactMapDoSaid : Prop := fnExactMapDoRow.holds Try.pinned (OpenSpec.ofChange fnExactMapDoSpec)

/-- ITS FALSE NEIGHBOUR: 'it returns false'. Refute it at one input. -/
def fnExactMapDoWrong : ChangeSpec := { name := "fnExactMapDo", fn := fun _ => fun
  | [d1, d2] => { results := [.lit (.bool false)], args := [d1, d2] }
  | _ => none }
def FnExactMapDoWrongFalsely : Prop := fnExactMapDoRow.holds Try.pinned (OpenSpec.ofChange fnExactMapDoWrong)

/-- 'laws.FnExactMapAll': WHATEVER THE INPUT: true; the input reads as it did. -/
def fnExactMapAllSpec : ChangeSpec := { name := "fnExactMapAll", fn := fun _ => fun
  | [d1, d2] => { results := [.lit (.bool true)], args := [d1, d2] }
  | _ => none }
def fnExactMapAllRow : OpenClaim := { program := "ytlapcjbhhonagaa", sum := "bf4e9581a68d4d52ebf4e00573cdf91c04028938124b40ccfe48ef813f2912ab", func := "loop.example/g00234/laws.FnExactMapAll", spec := "fnExactMapAll", inPlace := ["slices.overlaps[int]"], apart := false }
def FnExactMapAllSaid : Prop := fnExactMapAllRow.holds Try.pinned (OpenSpec.ofChange fnExactMapAllSpec)

/-- ITS FALSE NEIGHBOUR: 'it returns false'. Refute it at one input. -/
def fnExactMapAllWrong : ChangeSpec := { name := "fnExactMapAll", fn := fun _ => fun
  | [d1, d2] => { results := [.lit (.bool false)], args := [d1, d2] }
  | _ => none }
def FnExactMapAllWrongFalsely : Prop := fnExactMapAllRow.holds Try.pinned (OpenSpec.ofChange fnExactMapAllWrong)

/-- 'laws.FnExactShrink': WHATEVER THE INPUT: true; the input reads as it did. -/
def fnExactShrinkSpec : ChangeSpec := { name := "fnExactShrink", fn := fun _ => fun
  | [d] => { results := [.lit (.bool true)], args := [d] }
  | _ => none }
def fnExactShrinkRow : OpenClaim := { program := "ytlapcjbhhonagaa", sum := "bf4e9581a68d4d52ebf4e00573cdf91c04028938124b40ccfe48ef813f2912ab", func := "loop.example/g00234/laws.FnExactShrink", spec := "fnExactShrink", inPlace := ["slices.overlaps[int]"], unfollowed := true, recurses := true, apart := false }
def FnExactShrinkSaid : Prop := fnExactShrinkRow.holds Try.pinned (OpenSpec.ofChange fnExactShrinkSpec)

/-- ITS FALSE NEIGHBOUR: 'it returns false'. Refute it at one input. -/
def fnExactShrinkWrong : ChangeSpec := { name := "fnExactShrink", fn := fun _ => fun
  | [d] => { results := [.lit (.bool false)], args := [d] }
  | _ => none }
def FnExactShrinkWrongFalsely : Prop := fnExactShrinkRow.holds Try.pinned (OpenSpec.ofChange fnExactShrinkWrong)

/- THE SECOND FORM. 'bulk': how many values and letters a reading holds, each counted each time it is reached (what is shared counts as often as it is met; a slice's spare places count too). A statement '..UptoSaid' is the law's where the arguments, and the package variables that the reading takes, are together of bulk at most 1048576: NARROWER than '..Said'. Prove '..Said' where nothing that the law and all that it calls make is longer than what came in: it says more and counts as full. Else prove '..UptoSaid'. A law counts once. -/
mutual
def uptoBulk {H : Type} : DataW H → Nat
  | .lit (.string bytes) => bytes.length + 1
  | .lit _ => 1
  | .nil => 1
  | .ptr d => uptoBulk d + 1
  | .slice elems spare => uptoBulkAll elems + uptoBulkAll spare + 1
  | .agg parts => uptoBulkAll parts + 1
  | .iface _ d => uptoBulk d + 1
  | .map entries => uptoBulkEntries entries + 1
  | .held _ => 1
def uptoBulkAll {H : Type} : List (DataW H) → Nat
  | [] => 0
  | d :: r => uptoBulk d + uptoBulkAll r
def uptoBulkEntries {H : Type} : List (Lit × DataW H) → Nat
  | [] => 0
  | x :: r => uptoBulkEntry x + uptoBulkEntries r
def uptoBulkEntry {H : Type} : Lit × DataW H → Nat
  | (.string bytes, d) => bytes.length + uptoBulk d + 1
  | (_, d) => uptoBulk d + 1
 end
def uptoSmall : (H : Type) → List (DataW H) → Bool := fun _ ds => decide (uptoBulkAll ds ≤ 1048576)
def OpenSpec.upto (s : _root_.Go.ChangeSpec) : _root_.Go.OpenSpec := { _root_.Go.OpenSpec.ofChange s with cond := some uptoSmall }

/-- 'laws.FnShrunk', WHERE WHAT IT READS IS OF BULK AT MOST 1048576: true; the input reads as it did. -/
def fnShrunkUptoRow : OpenClaim := { program := "ytlapcjbhhonagaa", sum := "bf4e9581a68d4d52ebf4e00573cdf91c04028938124b40ccfe48ef813f2912ab", func := "loop.example/g00234/laws.FnShrunk", spec := "fnShrunk", inPlace := ["slices.overlaps[int]"], unfollowed := true, recurses := true, apart := false, narrowed := true }
def FnShrunkUptoSaid : Prop := fnShrunkUptoRow.holds Try.pinned (OpenSpec.upto fnShrunkSpec)

/-- 'laws.FnMapped', WHERE WHAT IT READS IS OF BULK AT MOST 1048576: true; the input reads as it did. -/
def fnMappedUptoRow : OpenClaim := { program := "ytlapcjbhhonagaa", sum := "bf4e9581a68d4d52ebf4e00573cdf91c04028938124b40ccfe48ef813f2912ab", func := "loop.example/g00234/laws.FnMapped", spec := "fnMapped", inPlace := ["slices.overlaps[int]"], apart := false, narrowed := true }
def FnMappedUptoSaid : Prop := fnMappedUptoRow.holds Try.pinned (OpenSpec.upto fnMappedSpec)

/-- 'laws.FnMapAll', WHERE WHAT IT READS IS OF BULK AT MOST 1048576: true; the input reads as it did. -/
def fnMapAllUptoRow : OpenClaim := { program := "ytlapcjbhhonagaa", sum := "bf4e9581a68d4d52ebf4e00573cdf91c04028938124b40ccfe48ef813f2912ab", func := "loop.example/g00234/laws.FnMapAll", spec := "fnMapAll", inPlace := ["slices.overlaps[int]"], apart := false, narrowed := true }
def FnMapAllUptoSaid : Prop := fnMapAllUptoRow.holds Try.pinned (OpenSpec.upto fnMapAllSpec)

/-- 'laws.FnExactMsgOk', WHERE WHAT IT READS IS OF BULK AT MOST 1048576: true; the input reads as it did. -/
def fnExactMsgOkUptoRow : OpenClaim := { program := "ytlapcjbhhonagaa", sum := "bf4e9581a68d4d52ebf4e00573cdf91c04028938124b40ccfe48ef813f2912ab", func := "loop.example/g00234/laws.FnExactMsgOk", spec := "fnExactMsgOk", apart := false, narrowed := true }
def FnExactMsgOkUptoSaid : Prop := fnExactMsgOkUptoRow.holds Try.pinned (OpenSpec.upto fnExactMsgOkSpec)

/-- 'laws.FnExactMapOk', WHERE WHAT IT READS IS OF BULK AT MOST 1048576: true; the input reads as it did. -/
def fnExactMapOkUptoRow : OpenClaim := { program := "ytlapcjbhhonagaa", sum := "bf4e9581a68d4d52ebf4e00573cdf91c04028938124b40ccfe48ef813f2912ab", func := "loop.example/g00234/laws.FnExactMapOk", spec := "fnExactMapOk", apart := false, narrowed := true }
def FnExactMapOkUptoSaid : Prop := fnExactMapOkUptoRow.holds Try.pinned (OpenSpec.upto fnExactMapOkSpec)

/-- 'laws.FnExactMapGet', WHERE WHAT IT READS IS OF BULK AT MOST 1048576: true; the input reads as it did. -/
def fnExactMapGetUptoRow : OpenClaim := { program := "ytlapcjbhhonagaa", sum := "bf4e9581a68d4d52ebf4e00573cdf91c04028938124b40ccfe48ef813f2912ab", func := "loop.example/g00234/laws.FnExactMapGet", spec := "fnExactMapGet", apart := false, narrowed := true }
def FnExactMapGetUptoSaid : Prop := fnExactMapGetUptoRow.holds Try.pinned (OpenSpec.upto fnExactMapGetSpec)

/-- 'laws.FnExactMapDo', WHERE WHAT IT READS IS OF BULK AT MOST 1048576: true; the input reads as it did. -/
def fnExactMapDoUptoRow : OpenClaim := { program := "ytlapcjbhhonagaa", sum := "bf4e9581a68d4d52ebf4e00573cdf91c04028938124b40ccfe48ef813f2912ab", func := "loop.example/g00234/laws.FnExactMapDo", spec := "fnExactMapDo", inPlace := ["slices.overlaps[int]"], apart := false, narrowed := true }
def FnExactMapDoUptoSaid : Prop := fnExactMapDoUptoRow.holds Try.pinned (OpenSpec.upto fnExactMapDoSpec)

/-- 'laws.FnExactMapAll', WHERE WHAT IT READS IS OF BULK AT MOST 1048576: true; the input reads as it did. -/
def fnExactMapAllUptoRow : OpenClaim := { program := "ytlapcjbhhonagaa", sum := "bf4e9581a68d4d52ebf4e00573cdf91c04028938124b40ccfe48ef813f2912ab", func := "loop.example/g00234/laws.FnExactMapAll", spec := "fnExactMapAll", inPlace := ["slices.overlaps[int]"], apart := false, narrowed := true }
def FnExactMapAllUptoSaid : Prop := fnExactMapAllUptoRow.holds Try.pinned (OpenSpec.upto fnExactMapAllSpec)

/-- 'laws.FnExactShrink', WHERE WHAT IT READS IS OF BULK AT MOST 1048576: true; the input reads as it did. -/
def fnExactShrinkUptoRow : OpenClaim := { program := "ytlapcjbhhonagaa", sum := "bf4e9581a68d4d52ebf4e00573cdf91c04028938124b40ccfe48ef813f2912ab", func := "loop.example/g00234/laws.FnExactShrink", spec := "fnExactShrink", inPlace := ["slices.overlaps[int]"], unfollowed := true, recurses := true, apart := false, narrowed := true }
def FnExactShrinkUptoSaid : Prop := fnExactShrinkUptoRow.holds Try.pinned (OpenSpec.upto fnExactShrinkSpec)

end Rows
end Go.Proofs.Ytlapcjbhhonagaa
