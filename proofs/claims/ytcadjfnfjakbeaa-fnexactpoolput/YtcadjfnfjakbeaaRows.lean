/-
  No cell of these rows narrows 'for every input' (looked for: loops, veiled, ifaces, maps, wideKeys, modest, calm, conditions, laid).
  DERIVED. THE GIVEN ROWS OF THIS SEAT. 6 by the template 'for every input the law returns true; each argument reads behind the call as it read before'; 0 by the template 'total and deterministic' (their statements: YtcadjfnfjakbeaaTotals.lean).
  GIVEN WITH THE SEED: the statements are not yours to turn. If you find one false, say at which input.
  Laid BY PROGRAM, IN A SANDBOX (cutbox-rows.mjs): the forced cells as the released guide's own fill.sh prints them over the translation ef2a5829417f7009… (all of the seat's roots in one cut). By AI agents, Wed Nov 11 2026. No macro, syntax, notation, axiom, sorry.
-/
import Derived.Test.YtcadjfnfjakbeaaChecked
import GoSem.Claim
import GoSem.ClaimJoined
import GoSem.ClaimMapViews
import Derived.JoinedTies
import Derived.KernelRfl
namespace Go.Proofs.Ytcadjfnfjakbeaa
/- THE CELL 'sum', in the pinned program and in every row, IS THE sha256 OF THE DUMP (.gsa) THAT YtcadjfnfjakbeaaProg.lean LOADS. Nothing in Lean hashes anything: it is a label: what it is worth is what the hold of that sum in a sandbox is worth. -/
noncomputable def Try.pinned : Pinned := { name := "ytcadjfnfjakbeaa", sum := "ef2a5829417f7009339496ade636c594d4e2c0bfc4fddf03a9fb12a4aadc86b0", checked := Try.checked }
namespace Rows
def none {H : Type} : Left H := { results := [], args := [] }

/-- 'laws.FnGrid': WHATEVER THE INPUT: true; the input reads as it did. -/
def fnGridSpec : ChangeSpec := { name := "fnGrid", fn := fun _ => fun
  | [d1, d2] => { results := [.lit (.bool true)], args := [d1, d2] }
  | _ => none }
def fnGridRow : OpenClaim := { program := "ytcadjfnfjakbeaa", sum := "ef2a5829417f7009339496ade636c594d4e2c0bfc4fddf03a9fb12a4aadc86b0", func := "loop.example/g00635/laws.FnGrid", spec := "fnGrid", plainKeys := false, apart := false }
def FnGridSaid : Prop := fnGridRow.holds Try.pinned (OpenSpec.ofChange fnGridSpec)

/-- ITS FALSE NEIGHBOUR: 'it returns false'. Refute it at one input. -/
def fnGridWrong : ChangeSpec := { name := "fnGrid", fn := fun _ => fun
  | [d1, d2] => { results := [.lit (.bool false)], args := [d1, d2] }
  | _ => none }
def FnGridWrongFalsely : Prop := fnGridRow.holds Try.pinned (OpenSpec.ofChange fnGridWrong)

/-- 'laws.FnExactTileAt': WHATEVER THE INPUT: true; the input reads as it did. -/
def fnExactTileAtSpec : ChangeSpec := { name := "fnExactTileAt", fn := fun _ => fun
  | [d1, d2, d3] => { results := [.lit (.bool true)], args := [d1, d2, d3] }
  | _ => none }
def fnExactTileAtRow : OpenClaim := { program := "ytcadjfnfjakbeaa", sum := "ef2a5829417f7009339496ade636c594d4e2c0bfc4fddf03a9fb12a4aadc86b0", func := "loop.example/g00635/laws.FnExactTileAt", spec := "fnExactTileAt", plainKeys := false, apart := false }
def FnExactTileAtSaid : Prop := fnExactTileAtRow.holds Try.pinned (OpenSpec.ofChange fnExactTileAtSpec)

/-- ITS FALSE NEIGHBOUR: 'it returns false'. Refute it at one input. -/
def fnExactTileAtWrong : ChangeSpec := { name := "fnExactTileAt", fn := fun _ => fun
  | [d1, d2, d3] => { results := [.lit (.bool false)], args := [d1, d2, d3] }
  | _ => none }
def FnExactTileAtWrongFalsely : Prop := fnExactTileAtRow.holds Try.pinned (OpenSpec.ofChange fnExactTileAtWrong)

/-- 'laws.FnExactPoolRight': WHATEVER THE INPUT: true; the input reads as it did. -/
def fnExactPoolRightSpec : ChangeSpec := { name := "fnExactPoolRight", fn := fun _ => fun
  | [d] => { results := [.lit (.bool true)], args := [d] }
  | _ => none }
def fnExactPoolRightRow : OpenClaim := { program := "ytcadjfnfjakbeaa", sum := "ef2a5829417f7009339496ade636c594d4e2c0bfc4fddf03a9fb12a4aadc86b0", func := "loop.example/g00635/laws.FnExactPoolRight", spec := "fnExactPoolRight", plainKeys := false, apart := false }
def FnExactPoolRightSaid : Prop := fnExactPoolRightRow.holds Try.pinned (OpenSpec.ofChange fnExactPoolRightSpec)

/-- ITS FALSE NEIGHBOUR: 'it returns false'. Refute it at one input. -/
def fnExactPoolRightWrong : ChangeSpec := { name := "fnExactPoolRight", fn := fun _ => fun
  | [d] => { results := [.lit (.bool false)], args := [d] }
  | _ => none }
def FnExactPoolRightWrongFalsely : Prop := fnExactPoolRightRow.holds Try.pinned (OpenSpec.ofChange fnExactPoolRightWrong)

/-- 'laws.FnExactHeight': WHATEVER THE INPUT: true; the input reads as it did. -/
def fnExactHeightSpec : ChangeSpec := { name := "fnExactHeight", fn := fun _ => fun
  | [d1, d2] => { results := [.lit (.bool true)], args := [d1, d2] }
  | _ => none }
def fnExactHeightRow : OpenClaim := { program := "ytcadjfnfjakbeaa", sum := "ef2a5829417f7009339496ade636c594d4e2c0bfc4fddf03a9fb12a4aadc86b0", func := "loop.example/g00635/laws.FnExactHeight", spec := "fnExactHeight", plainKeys := false, apart := false }
def FnExactHeightSaid : Prop := fnExactHeightRow.holds Try.pinned (OpenSpec.ofChange fnExactHeightSpec)

/-- ITS FALSE NEIGHBOUR: 'it returns false'. Refute it at one input. -/
def fnExactHeightWrong : ChangeSpec := { name := "fnExactHeight", fn := fun _ => fun
  | [d1, d2] => { results := [.lit (.bool false)], args := [d1, d2] }
  | _ => none }
def FnExactHeightWrongFalsely : Prop := fnExactHeightRow.holds Try.pinned (OpenSpec.ofChange fnExactHeightWrong)

/-- 'laws.FnExactPoolPut': WHATEVER THE INPUT: true; the input reads as it did. -/
def fnExactPoolPutSpec : ChangeSpec := { name := "fnExactPoolPut", fn := fun _ => fun
  | [d1, d2] => { results := [.lit (.bool true)], args := [d1, d2] }
  | _ => none }
def fnExactPoolPutRow : OpenClaim := { program := "ytcadjfnfjakbeaa", sum := "ef2a5829417f7009339496ade636c594d4e2c0bfc4fddf03a9fb12a4aadc86b0", func := "loop.example/g00635/laws.FnExactPoolPut", spec := "fnExactPoolPut", unfollowed := true, recurses := true, plainKeys := false, apart := false }
def FnExactPoolPutSaid : Prop := fnExactPoolPutRow.holds Try.pinned (OpenSpec.ofChange fnExactPoolPutSpec)

/-- ITS FALSE NEIGHBOUR: 'it returns false'. Refute it at one input. -/
def fnExactPoolPutWrong : ChangeSpec := { name := "fnExactPoolPut", fn := fun _ => fun
  | [d1, d2] => { results := [.lit (.bool false)], args := [d1, d2] }
  | _ => none }
def FnExactPoolPutWrongFalsely : Prop := fnExactPoolPutRow.holds Try.pinned (OpenSpec.ofChange fnExactPoolPutWrong)

/-- 'laws.FnExactWeight': WHATEVER THE INPUT: true; the input reads as it did. -/
def fnExactWeightSpec : ChangeSpec := { name := "fnExactWeight", fn := fun _ => fun
  | [d1, d2] => { results := [.lit (.bool true)], args := [d1, d2] }
  | _ => none }
def fnExactWeightRow : OpenClaim := { program := "ytcadjfnfjakbeaa", sum := "ef2a5829417f7009339496ade636c594d4e2c0bfc4fddf03a9fb12a4aadc86b0", func := "loop.example/g00635/laws.FnExactWeight", spec := "fnExactWeight", recurses := true, plainKeys := false, apart := false }
def FnExactWeightSaid : Prop := fnExactWeightRow.holds Try.pinned (OpenSpec.ofChange fnExactWeightSpec)

/-- ITS FALSE NEIGHBOUR: 'it returns false'. Refute it at one input. -/
def fnExactWeightWrong : ChangeSpec := { name := "fnExactWeight", fn := fun _ => fun
  | [d1, d2] => { results := [.lit (.bool false)], args := [d1, d2] }
  | _ => none }
def FnExactWeightWrongFalsely : Prop := fnExactWeightRow.holds Try.pinned (OpenSpec.ofChange fnExactWeightWrong)

/- THE SECOND FORM. 'bulk': how many values and letters a reading holds, each counted each time it is reached (what is shared counts as often as it is met; a slice's spare places count too). A statement '..UptoSaid' is the law's where the arguments, and the package variables that the reading takes, are together of bulk at most 1048576: NARROWER than '..Said'. Prove '..Said' where nothing that the law and all that it calls make is longer than what came in: it says more and counts as full. Else prove '..UptoSaid'. A law counts once. -/
mutual
def uptoBulk {H : Type} : DataW H → Nat
  | .lit (.string bytes) => bytes.length + 1
  | .lit _ => 1
  | .nil => 1
  | .ptr d => uptoBulk d + 1
  | .slice elems spare => uptoBulkAll elems + uptoBulkAll spare + 1
  | .agg parts => uptoBulkAll parts + 1
  | .iface _ d => uptoBulk d + 1
  | .map entries => uptoBulkEntries entries + 1
  | .held _ => 1
def uptoBulkAll {H : Type} : List (DataW H) → Nat
  | [] => 0
  | d :: r => uptoBulk d + uptoBulkAll r
def uptoBulkEntries {H : Type} : List (Lit × DataW H) → Nat
  | [] => 0
  | x :: r => uptoBulkEntry x + uptoBulkEntries r
def uptoBulkEntry {H : Type} : Lit × DataW H → Nat
  | (.string bytes, d) => bytes.length + uptoBulk d + 1
  | (_, d) => uptoBulk d + 1
 end
def uptoSmall : (H : Type) → List (DataW H) → Bool := fun _ ds => decide (uptoBulkAll ds ≤ 1048576)
def OpenSpec.upto (s : _root_.Go.ChangeSpec) : _root_.Go.OpenSpec := { _root_.Go.OpenSpec.ofChange s with cond := some uptoSmall }

/-- 'laws.FnGrid', WHERE WHAT IT READS IS OF BULK AT MOST 1048576: true; the input reads as it did. -/
def fnGridUptoRow : OpenClaim := { program := "ytcadjfnfjakbeaa", sum := "ef2a5829417f7009339496ade636c594d4e2c0bfc4fddf03a9fb12a4aadc86b0", func := "loop.example/g00635/laws.FnGrid", spec := "fnGrid", plainKeys := false, apart := false, narrowed := true }
def FnGridUptoSaid : Prop := fnGridUptoRow.holds Try.pinned (OpenSpec.upto fnGridSpec)

/-- 'laws.FnExactTileAt', WHERE WHAT IT READS IS OF BULK AT MOST 1048576: true; the input reads as it did. -/
def fnExactTileAtUptoRow : OpenClaim := { program := "ytcadjfnfjakbeaa", sum := "ef2a5829417f7009339496ade636c594d4e2c0bfc4fddf03a9fb12a4aadc86b0", func := "loop.example/g00635/laws.FnExactTileAt", spec := "fnExactTileAt", plainKeys := false, apart := false, narrowed := true }
def FnExactTileAtUptoSaid : Prop := fnExactTileAtUptoRow.holds Try.pinned (OpenSpec.upto fnExactTileAtSpec)

/-- 'laws.FnExactPoolRight', WHERE WHAT IT READS IS OF BULK AT MOST 1048576: true; the input reads as it did. -/
def fnExactPoolRightUptoRow : OpenClaim := { program := "ytcadjfnfjakbeaa", sum := "ef2a5829417f7009339496ade636c594d4e2c0bfc4fddf03a9fb12a4aadc86b0", func := "loop.example/g00635/laws.FnExactPoolRight", spec := "fnExactPoolRight", plainKeys := false, apart := false, narrowed := true }
def FnExactPoolRightUptoSaid : Prop := fnExactPoolRightUptoRow.holds Try.pinned (OpenSpec.upto fnExactPoolRightSpec)

/-- 'laws.FnExactHeight', WHERE WHAT IT READS IS OF BULK AT MOST 1048576: true; the input reads as it did. -/
def fnExactHeightUptoRow : OpenClaim := { program := "ytcadjfnfjakbeaa", sum := "ef2a5829417f7009339496ade636c594d4e2c0bfc4fddf03a9fb12a4aadc86b0", func := "loop.example/g00635/laws.FnExactHeight", spec := "fnExactHeight", plainKeys := false, apart := false, narrowed := true }
def FnExactHeightUptoSaid : Prop := fnExactHeightUptoRow.holds Try.pinned (OpenSpec.upto fnExactHeightSpec)

/-- 'laws.FnExactPoolPut', WHERE WHAT IT READS IS OF BULK AT MOST 1048576: true; the input reads as it did. -/
def fnExactPoolPutUptoRow : OpenClaim := { program := "ytcadjfnfjakbeaa", sum := "ef2a5829417f7009339496ade636c594d4e2c0bfc4fddf03a9fb12a4aadc86b0", func := "loop.example/g00635/laws.FnExactPoolPut", spec := "fnExactPoolPut", unfollowed := true, recurses := true, plainKeys := false, apart := false, narrowed := true }
def FnExactPoolPutUptoSaid : Prop := fnExactPoolPutUptoRow.holds Try.pinned (OpenSpec.upto fnExactPoolPutSpec)

/-- 'laws.FnExactWeight', WHERE WHAT IT READS IS OF BULK AT MOST 1048576: true; the input reads as it did. -/
def fnExactWeightUptoRow : OpenClaim := { program := "ytcadjfnfjakbeaa", sum := "ef2a5829417f7009339496ade636c594d4e2c0bfc4fddf03a9fb12a4aadc86b0", func := "loop.example/g00635/laws.FnExactWeight", spec := "fnExactWeight", recurses := true, plainKeys := false, apart := false, narrowed := true }
def FnExactWeightUptoSaid : Prop := fnExactWeightUptoRow.holds Try.pinned (OpenSpec.upto fnExactWeightSpec)

end Rows
end Go.Proofs.Ytcadjfnfjakbeaa
