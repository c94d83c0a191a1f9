/-
  NARROWER THAN 'FOR EVERY INPUT', by the rows' own cells (each row's printed sentence says how): FnExactInject: loops · FnExactDrain: loops · FnExactMachineDo: loops · FnExactMachineAll: loops.
  DERIVED. THE GIVEN ROWS OF THIS SEAT. 5 by the template 'for every input the law returns true; each argument reads behind the call as it read before'; 0 by the template 'total and deterministic' (their statements: YtcmofojechfccaaGreatTotals.lean).
  GIVEN WITH THE SEED: the statements are not yours to turn. If you find one false, say at which input.
  Laid BY PROGRAM, IN A SANDBOX (cutbox-rows.mjs): the forced cells as the released guide's own fill.sh prints them over the translation 1a5feaa8ac348692… (all of the seat's roots in one cut). By AI agents, Wed Nov 11 2026. No macro, syntax, notation, axiom, sorry.
-/
import Derived.Test.YtcmofojechfccaaGreatChecked
import GoSem.Claim
import GoSem.ClaimJoined
import GoSem.ClaimMapViews
import Derived.JoinedTies
import Derived.KernelRfl
namespace Go.Proofs.YtcmofojechfccaaGreat
/- THE CELL 'sum', in the pinned program and in every row, IS THE sha256 OF THE DUMP (.gsa) THAT YtcmofojechfccaaGreatProg.lean LOADS. Nothing in Lean hashes anything: it is a label: what it is worth is what the hold of that sum in a sandbox is worth. -/
noncomputable def Tryz.pinned : Pinned := { name := "ytcmofojechfccaagreat", sum := "1a5feaa8ac3486922912b47b100d5dee4da4fb2cdb7a1ec9634c69fdf856839e", checked := Tryz.checked }
namespace Rows
def none {H : Type} : Left H := { results := [], args := [] }

/-- 'laws.FnExactInject': WHATEVER THE INPUT: true; the input reads as it did. -/
def fnExactInjectSpec : ChangeSpec := { name := "fnExactInject", fn := fun _ => fun
  | [d1, d2] => { results := [.lit (.bool true)], args := [d1, d2] }
  | _ => none }
def fnExactInjectRow : OpenClaim := { program := "ytcmofojechfccaagreat", sum := "1a5feaa8ac3486922912b47b100d5dee4da4fb2cdb7a1ec9634c69fdf856839e", func := "loop.example/g00234/laws.FnExactInject", spec := "fnExactInject", inPlace := ["slices.overlaps[int]"], unfollowed := true, recurses := true, loops := true, plainKeys := false, apart := false }
def FnExactInjectSaid : Prop := fnExactInjectRow.holds Tryz.pinned (OpenSpec.ofChange fnExactInjectSpec)

/-- ITS FALSE NEIGHBOUR: 'it returns false'. Refute it at one input. -/
def fnExactInjectWrong : ChangeSpec := { name := "fnExactInject", fn := fun _ => fun
  | [d1, d2] => { results := [.lit (.bool false)], args := [d1, d2] }
  | _ => none }
def FnExactInjectWrongFalsely : Prop := fnExactInjectRow.holds Tryz.pinned (OpenSpec.ofChange fnExactInjectWrong)

/-- 'laws.FnExactDrain': WHATEVER THE INPUT: true; the input reads as it did. -/
def fnExactDrainSpec : ChangeSpec := { name := "fnExactDrain", fn := fun _ => fun
  | [d] => { results := [.lit (.bool true)], args := [d] }
  | _ => none }
def fnExactDrainRow : OpenClaim := { program := "ytcmofojechfccaagreat", sum := "1a5feaa8ac3486922912b47b100d5dee4da4fb2cdb7a1ec9634c69fdf856839e", func := "loop.example/g00234/laws.FnExactDrain", spec := "fnExactDrain", inPlace := ["slices.overlaps[int]"], unfollowed := true, recurses := true, loops := true, plainKeys := false, apart := false }
def FnExactDrainSaid : Prop := fnExactDrainRow.holds Tryz.pinned (OpenSpec.ofChange fnExactDrainSpec)

/-- ITS FALSE NEIGHBOUR: 'it returns false'. Refute it at one input. -/
def fnExactDrainWrong : ChangeSpec := { name := "fnExactDrain", fn := fun _ => fun
  | [d] => { results := [.lit (.bool false)], args := [d] }
  | _ => none }
def FnExactDrainWrongFalsely : Prop := fnExactDrainRow.holds Tryz.pinned (OpenSpec.ofChange fnExactDrainWrong)

/-- 'laws.FnExactBuild': WHATEVER THE INPUT: true; the input reads as it did. -/
def fnExactBuildSpec : ChangeSpec := { name := "fnExactBuild", fn := fun _ => fun
  | [d] => { results := [.lit (.bool true)], args := [d] }
  | _ => none }
def fnExactBuildRow : OpenClaim := { program := "ytcmofojechfccaagreat", sum := "1a5feaa8ac3486922912b47b100d5dee4da4fb2cdb7a1ec9634c69fdf856839e", func := "loop.example/g00234/laws.FnExactBuild", spec := "fnExactBuild", inPlace := ["slices.overlaps[int]"], unfollowed := true, recurses := true, plainKeys := false, apart := false }
def FnExactBuildSaid : Prop := fnExactBuildRow.holds Tryz.pinned (OpenSpec.ofChange fnExactBuildSpec)

/-- ITS FALSE NEIGHBOUR: 'it returns false'. Refute it at one input. -/
def fnExactBuildWrong : ChangeSpec := { name := "fnExactBuild", fn := fun _ => fun
  | [d] => { results := [.lit (.bool false)], args := [d] }
  | _ => none }
def FnExactBuildWrongFalsely : Prop := fnExactBuildRow.holds Tryz.pinned (OpenSpec.ofChange fnExactBuildWrong)

/-- 'laws.FnExactMachineDo': WHATEVER THE INPUT: true; the input reads as it did. -/
def fnExactMachineDoSpec : ChangeSpec := { name := "fnExactMachineDo", fn := fun _ => fun
  | [d1, d2] => { results := [.lit (.bool true)], args := [d1, d2] }
  | _ => none }
def fnExactMachineDoRow : OpenClaim := { program := "ytcmofojechfccaagreat", sum := "1a5feaa8ac3486922912b47b100d5dee4da4fb2cdb7a1ec9634c69fdf856839e", func := "loop.example/g00234/laws.FnExactMachineDo", spec := "fnExactMachineDo", inPlace := ["slices.overlaps[int]"], unfollowed := true, recurses := true, loops := true, plainKeys := false, apart := false }
def FnExactMachineDoSaid : Prop := fnExactMachineDoRow.holds Tryz.pinned (OpenSpec.ofChange fnExactMachineDoSpec)

/-- ITS FALSE NEIGHBOUR: 'it returns false'. Refute it at one input. -/
def fnExactMachineDoWrong : ChangeSpec := { name := "fnExactMachineDo", fn := fun _ => fun
  | [d1, d2] => { results := [.lit (.bool false)], args := [d1, d2] }
  | _ => none }
def FnExactMachineDoWrongFalsely : Prop := fnExactMachineDoRow.holds Tryz.pinned (OpenSpec.ofChange fnExactMachineDoWrong)

/-- 'laws.FnExactMachineAll': WHATEVER THE INPUT: true; the input reads as it did. -/
def fnExactMachineAllSpec : ChangeSpec := { name := "fnExactMachineAll", fn := fun _ => fun
  | [d1, d2] => { results := [.lit (.bool true)], args := [d1, d2] }
  | _ => none }
def fnExactMachineAllRow : OpenClaim := { program := "ytcmofojechfccaagreat", sum := "1a5feaa8ac3486922912b47b100d5dee4da4fb2cdb7a1ec9634c69fdf856839e", func := "loop.example/g00234/laws.FnExactMachineAll", spec := "fnExactMachineAll", inPlace := ["slices.overlaps[int]"], unfollowed := true, recurses := true, loops := true, plainKeys := false, apart := false }
def FnExactMachineAllSaid : Prop := fnExactMachineAllRow.holds Tryz.pinned (OpenSpec.ofChange fnExactMachineAllSpec)

/-- ITS FALSE NEIGHBOUR: 'it returns false'. Refute it at one input. -/
def fnExactMachineAllWrong : ChangeSpec := { name := "fnExactMachineAll", fn := fun _ => fun
  | [d1, d2] => { results := [.lit (.bool false)], args := [d1, d2] }
  | _ => none }
def FnExactMachineAllWrongFalsely : Prop := fnExactMachineAllRow.holds Tryz.pinned (OpenSpec.ofChange fnExactMachineAllWrong)

/- THE SECOND FORM. 'bulk': how many values and letters a reading holds, each counted each time it is reached (what is shared counts as often as it is met; a slice's spare places count too). A statement '..UptoSaid' is the law's where the arguments, and the package variables that the reading takes, are together of bulk at most 1048576: NARROWER than '..Said'. Prove '..Said' where nothing that the law and all that it calls make is longer than what came in: it says more and counts as full. Else prove '..UptoSaid'. A law counts once. -/
mutual
def uptoBulk {H : Type} : DataW H → Nat
  | .lit (.string bytes) => bytes.length + 1
  | .lit _ => 1
  | .nil => 1
  | .ptr d => uptoBulk d + 1
  | .slice elems spare => uptoBulkAll elems + uptoBulkAll spare + 1
  | .agg parts => uptoBulkAll parts + 1
  | .iface _ d => uptoBulk d + 1
  | .map entries => uptoBulkEntries entries + 1
  | .held _ => 1
def uptoBulkAll {H : Type} : List (DataW H) → Nat
  | [] => 0
  | d :: r => uptoBulk d + uptoBulkAll r
def uptoBulkEntries {H : Type} : List (Lit × DataW H) → Nat
  | [] => 0
  | x :: r => uptoBulkEntry x + uptoBulkEntries r
def uptoBulkEntry {H : Type} : Lit × DataW H → Nat
  | (.string bytes, d) => bytes.length + uptoBulk d + 1
  | (_, d) => uptoBulk d + 1
 end
def uptoSmall : (H : Type) → List (DataW H) → Bool := fun _ ds => decide (uptoBulkAll ds ≤ 1048576)
def OpenSpec.upto (s : _root_.Go.ChangeSpec) : _root_.Go.OpenSpec := { _root_.Go.OpenSpec.ofChange s with cond := some uptoSmall }

/-- 'laws.FnExactInject', WHERE WHAT IT READS IS OF BULK AT MOST 1048576: true; the input reads as it did. -/
def fnExactInjectUptoRow : OpenClaim := { program := "ytcmofojechfccaagreat", sum := "1a5feaa8ac3486922912b47b100d5dee4da4fb2cdb7a1ec9634c69fdf856839e", func := "loop.example/g00234/laws.FnExactInject", spec := "fnExactInject", inPlace := ["slices.overlaps[int]"], unfollowed := true, recurses := true, loops := true, plainKeys := false, apart := false, narrowed := true }
def FnExactInjectUptoSaid : Prop := fnExactInjectUptoRow.holds Tryz.pinned (OpenSpec.upto fnExactInjectSpec)

/-- 'laws.FnExactDrain', WHERE WHAT IT READS IS OF BULK AT MOST 1048576: true; the input reads as it did. -/
def fnExactDrainUptoRow : OpenClaim := { program := "ytcmofojechfccaagreat", sum := "1a5feaa8ac3486922912b47b100d5dee4da4fb2cdb7a1ec9634c69fdf856839e", func := "loop.example/g00234/laws.FnExactDrain", spec := "fnExactDrain", inPlace := ["slices.overlaps[int]"], unfollowed := true, recurses := true, loops := true, plainKeys := false, apart := false, narrowed := true }
def FnExactDrainUptoSaid : Prop := fnExactDrainUptoRow.holds Tryz.pinned (OpenSpec.upto fnExactDrainSpec)

/-- 'laws.FnExactBuild', WHERE WHAT IT READS IS OF BULK AT MOST 1048576: true; the input reads as it did. -/
def fnExactBuildUptoRow : OpenClaim := { program := "ytcmofojechfccaagreat", sum := "1a5feaa8ac3486922912b47b100d5dee4da4fb2cdb7a1ec9634c69fdf856839e", func := "loop.example/g00234/laws.FnExactBuild", spec := "fnExactBuild", inPlace := ["slices.overlaps[int]"], unfollowed := true, recurses := true, plainKeys := false, apart := false, narrowed := true }
def FnExactBuildUptoSaid : Prop := fnExactBuildUptoRow.holds Tryz.pinned (OpenSpec.upto fnExactBuildSpec)

/-- 'laws.FnExactMachineDo', WHERE WHAT IT READS IS OF BULK AT MOST 1048576: true; the input reads as it did. -/
def fnExactMachineDoUptoRow : OpenClaim := { program := "ytcmofojechfccaagreat", sum := "1a5feaa8ac3486922912b47b100d5dee4da4fb2cdb7a1ec9634c69fdf856839e", func := "loop.example/g00234/laws.FnExactMachineDo", spec := "fnExactMachineDo", inPlace := ["slices.overlaps[int]"], unfollowed := true, recurses := true, loops := true, plainKeys := false, apart := false, narrowed := true }
def FnExactMachineDoUptoSaid : Prop := fnExactMachineDoUptoRow.holds Tryz.pinned (OpenSpec.upto fnExactMachineDoSpec)

/-- 'laws.FnExactMachineAll', WHERE WHAT IT READS IS OF BULK AT MOST 1048576: true; the input reads as it did. -/
def fnExactMachineAllUptoRow : OpenClaim := { program := "ytcmofojechfccaagreat", sum := "1a5feaa8ac3486922912b47b100d5dee4da4fb2cdb7a1ec9634c69fdf856839e", func := "loop.example/g00234/laws.FnExactMachineAll", spec := "fnExactMachineAll", inPlace := ["slices.overlaps[int]"], unfollowed := true, recurses := true, loops := true, plainKeys := false, apart := false, narrowed := true }
def FnExactMachineAllUptoSaid : Prop := fnExactMachineAllUptoRow.holds Tryz.pinned (OpenSpec.upto fnExactMachineAllSpec)

end Rows
end Go.Proofs.YtcmofojechfccaaGreat
