/-
  No cell of these rows narrows 'for every input' (looked for: loops, veiled, ifaces, maps, wideKeys, modest, calm, conditions, laid).
  DERIVED. THE GIVEN ROWS OF THIS SEAT. 12 by the template 'for every input the law returns true; each argument reads behind the call as it read before'; 0 by the template 'total and deterministic' (their statements: YtnojmghmkoojfaaTotals.lean).
  GIVEN WITH THE SEED: the statements are not yours to turn. If you find one false, say at which input.
  Laid BY PROGRAM, IN A SANDBOX (cutbox-rows.mjs): the forced cells as the released guide's own fill.sh prints them over the translation ba19d78691258cba… (all of the seat's roots in one cut). By AI agents, Wed Nov 11 2026. No macro, syntax, notation, axiom, sorry.
-/
import Derived.Test.YtnojmghmkoojfaaChecked
import GoSem.Claim
import GoSem.ClaimJoined
import GoSem.ClaimMapViews
import Derived.JoinedTies
import Derived.KernelRfl
namespace Go.Proofs.Ytnojmghmkoojfaa
/- THE CELL 'sum', in the pinned program and in every row, IS THE sha256 OF THE DUMP (.gsa) THAT YtnojmghmkoojfaaProg.lean LOADS. Nothing in Lean hashes anything: it is a label: what it is worth is what the hold of that sum in a sandbox is worth. -/
noncomputable def Try.pinned : Pinned := { name := "ytnojmghmkoojfaa", sum := "ba19d78691258cba28f021a37f89af4543b2ef92e80609fb72027e32fe34959b", checked := Try.checked }
namespace Rows
def none {H : Type} : Left H := { results := [], args := [] }

/-- 'laws.FnExactPolynomialOfRoots': WHATEVER THE INPUT: true; the input reads as it did. -/
def fnExactPolynomialOfRootsSpec : ChangeSpec := { name := "fnExactPolynomialOfRoots", fn := fun _ => fun
  | [d1, d2] => { results := [.lit (.bool true)], args := [d1, d2] }
  | _ => none }
def fnExactPolynomialOfRootsRow : OpenClaim := { program := "ytnojmghmkoojfaa", sum := "ba19d78691258cba28f021a37f89af4543b2ef92e80609fb72027e32fe34959b", func := "loop.example/g01283/laws.FnExactPolynomialOfRoots", spec := "fnExactPolynomialOfRoots", plainKeys := false, apart := false }
def FnExactPolynomialOfRootsSaid : Prop := fnExactPolynomialOfRootsRow.holds Try.pinned (OpenSpec.ofChange fnExactPolynomialOfRootsSpec)

/-- ITS FALSE NEIGHBOUR: 'it returns false'. Refute it at one input. -/
def fnExactPolynomialOfRootsWrong : ChangeSpec := { name := "fnExactPolynomialOfRoots", fn := fun _ => fun
  | [d1, d2] => { results := [.lit (.bool false)], args := [d1, d2] }
  | _ => none }
def FnExactPolynomialOfRootsWrongFalsely : Prop := fnExactPolynomialOfRootsRow.holds Try.pinned (OpenSpec.ofChange fnExactPolynomialOfRootsWrong)

/-- 'laws.FnExactMoveRoots': WHATEVER THE INPUT: true; the input reads as it did. -/
def fnExactMoveRootsSpec : ChangeSpec := { name := "fnExactMoveRoots", fn := fun _ => fun
  | [d1, d2, d3] => { results := [.lit (.bool true)], args := [d1, d2, d3] }
  | _ => none }
def fnExactMoveRootsRow : OpenClaim := { program := "ytnojmghmkoojfaa", sum := "ba19d78691258cba28f021a37f89af4543b2ef92e80609fb72027e32fe34959b", func := "loop.example/g01283/laws.FnExactMoveRoots", spec := "fnExactMoveRoots", unfollowed := true, recurses := true, plainKeys := false, apart := false }
def FnExactMoveRootsSaid : Prop := fnExactMoveRootsRow.holds Try.pinned (OpenSpec.ofChange fnExactMoveRootsSpec)

/-- ITS FALSE NEIGHBOUR: 'it returns false'. Refute it at one input. -/
def fnExactMoveRootsWrong : ChangeSpec := { name := "fnExactMoveRoots", fn := fun _ => fun
  | [d1, d2, d3] => { results := [.lit (.bool false)], args := [d1, d2, d3] }
  | _ => none }
def FnExactMoveRootsWrongFalsely : Prop := fnExactMoveRootsRow.holds Try.pinned (OpenSpec.ofChange fnExactMoveRootsWrong)

/-- 'laws.FnExactScaleRoots': WHATEVER THE INPUT: true; the input reads as it did. -/
def fnExactScaleRootsSpec : ChangeSpec := { name := "fnExactScaleRoots", fn := fun _ => fun
  | [d1, d2, d3] => { results := [.lit (.bool true)], args := [d1, d2, d3] }
  | _ => none }
def fnExactScaleRootsRow : OpenClaim := { program := "ytnojmghmkoojfaa", sum := "ba19d78691258cba28f021a37f89af4543b2ef92e80609fb72027e32fe34959b", func := "loop.example/g01283/laws.FnExactScaleRoots", spec := "fnExactScaleRoots", unfollowed := true, recurses := true, plainKeys := false, apart := false }
def FnExactScaleRootsSaid : Prop := fnExactScaleRootsRow.holds Try.pinned (OpenSpec.ofChange fnExactScaleRootsSpec)

/-- ITS FALSE NEIGHBOUR: 'it returns false'. Refute it at one input. -/
def fnExactScaleRootsWrong : ChangeSpec := { name := "fnExactScaleRoots", fn := fun _ => fun
  | [d1, d2, d3] => { results := [.lit (.bool false)], args := [d1, d2, d3] }
  | _ => none }
def FnExactScaleRootsWrongFalsely : Prop := fnExactScaleRootsRow.holds Try.pinned (OpenSpec.ofChange fnExactScaleRootsWrong)

/-- 'laws.FnExactReversePolynomial': WHATEVER THE INPUT: true; the input reads as it did. -/
def fnExactReversePolynomialSpec : ChangeSpec := { name := "fnExactReversePolynomial", fn := fun _ => fun
  | [d1, d2] => { results := [.lit (.bool true)], args := [d1, d2] }
  | _ => none }
def fnExactReversePolynomialRow : OpenClaim := { program := "ytnojmghmkoojfaa", sum := "ba19d78691258cba28f021a37f89af4543b2ef92e80609fb72027e32fe34959b", func := "loop.example/g01283/laws.FnExactReversePolynomial", spec := "fnExactReversePolynomial", plainKeys := false, apart := false }
def FnExactReversePolynomialSaid : Prop := fnExactReversePolynomialRow.holds Try.pinned (OpenSpec.ofChange fnExactReversePolynomialSpec)

/-- ITS FALSE NEIGHBOUR: 'it returns false'. Refute it at one input. -/
def fnExactReversePolynomialWrong : ChangeSpec := { name := "fnExactReversePolynomial", fn := fun _ => fun
  | [d1, d2] => { results := [.lit (.bool false)], args := [d1, d2] }
  | _ => none }
def FnExactReversePolynomialWrongFalsely : Prop := fnExactReversePolynomialRow.holds Try.pinned (OpenSpec.ofChange fnExactReversePolynomialWrong)

/-- 'laws.FnExactPowerSums': WHATEVER THE INPUT: true; the input reads as it did. -/
def fnExactPowerSumsSpec : ChangeSpec := { name := "fnExactPowerSums", fn := fun _ => fun
  | [d1, d2, d3] => { results := [.lit (.bool true)], args := [d1, d2, d3] }
  | _ => none }
def fnExactPowerSumsRow : OpenClaim := { program := "ytnojmghmkoojfaa", sum := "ba19d78691258cba28f021a37f89af4543b2ef92e80609fb72027e32fe34959b", func := "loop.example/g01283/laws.FnExactPowerSums", spec := "fnExactPowerSums", unfollowed := true, recurses := true, plainKeys := false, apart := false }
def FnExactPowerSumsSaid : Prop := fnExactPowerSumsRow.holds Try.pinned (OpenSpec.ofChange fnExactPowerSumsSpec)

/-- ITS FALSE NEIGHBOUR: 'it returns false'. Refute it at one input. -/
def fnExactPowerSumsWrong : ChangeSpec := { name := "fnExactPowerSums", fn := fun _ => fun
  | [d1, d2, d3] => { results := [.lit (.bool false)], args := [d1, d2, d3] }
  | _ => none }
def FnExactPowerSumsWrongFalsely : Prop := fnExactPowerSumsRow.holds Try.pinned (OpenSpec.ofChange fnExactPowerSumsWrong)

/-- 'laws.FnExactIsSimplePolynomial': WHATEVER THE INPUT: true; the input reads as it did. -/
def fnExactIsSimplePolynomialSpec : ChangeSpec := { name := "fnExactIsSimplePolynomial", fn := fun _ => fun
  | [d1, d2] => { results := [.lit (.bool true)], args := [d1, d2] }
  | _ => none }
def fnExactIsSimplePolynomialRow : OpenClaim := { program := "ytnojmghmkoojfaa", sum := "ba19d78691258cba28f021a37f89af4543b2ef92e80609fb72027e32fe34959b", func := "loop.example/g01283/laws.FnExactIsSimplePolynomial", spec := "fnExactIsSimplePolynomial", unfollowed := true, recurses := true, plainKeys := false, apart := false }
def FnExactIsSimplePolynomialSaid : Prop := fnExactIsSimplePolynomialRow.holds Try.pinned (OpenSpec.ofChange fnExactIsSimplePolynomialSpec)

/-- ITS FALSE NEIGHBOUR: 'it returns false'. Refute it at one input. -/
def fnExactIsSimplePolynomialWrong : ChangeSpec := { name := "fnExactIsSimplePolynomial", fn := fun _ => fun
  | [d1, d2] => { results := [.lit (.bool false)], args := [d1, d2] }
  | _ => none }
def FnExactIsSimplePolynomialWrongFalsely : Prop := fnExactIsSimplePolynomialRow.holds Try.pinned (OpenSpec.ofChange fnExactIsSimplePolynomialWrong)

/-- 'laws.FnExactSimplePart': WHATEVER THE INPUT: true; the input reads as it did. -/
def fnExactSimplePartSpec : ChangeSpec := { name := "fnExactSimplePart", fn := fun _ => fun
  | [d1, d2] => { results := [.lit (.bool true)], args := [d1, d2] }
  | _ => none }
def fnExactSimplePartRow : OpenClaim := { program := "ytnojmghmkoojfaa", sum := "ba19d78691258cba28f021a37f89af4543b2ef92e80609fb72027e32fe34959b", func := "loop.example/g01283/laws.FnExactSimplePart", spec := "fnExactSimplePart", unfollowed := true, recurses := true, plainKeys := false, apart := false }
def FnExactSimplePartSaid : Prop := fnExactSimplePartRow.holds Try.pinned (OpenSpec.ofChange fnExactSimplePartSpec)

/-- ITS FALSE NEIGHBOUR: 'it returns false'. Refute it at one input. -/
def fnExactSimplePartWrong : ChangeSpec := { name := "fnExactSimplePart", fn := fun _ => fun
  | [d1, d2] => { results := [.lit (.bool false)], args := [d1, d2] }
  | _ => none }
def FnExactSimplePartWrongFalsely : Prop := fnExactSimplePartRow.holds Try.pinned (OpenSpec.ofChange fnExactSimplePartWrong)

/-- 'laws.FnExactResultantOf': WHATEVER THE INPUT: true; the input reads as it did. -/
def fnExactResultantOfSpec : ChangeSpec := { name := "fnExactResultantOf", fn := fun _ => fun
  | [d1, d2, d3] => { results := [.lit (.bool true)], args := [d1, d2, d3] }
  | _ => none }
def fnExactResultantOfRow : OpenClaim := { program := "ytnojmghmkoojfaa", sum := "ba19d78691258cba28f021a37f89af4543b2ef92e80609fb72027e32fe34959b", func := "loop.example/g01283/laws.FnExactResultantOf", spec := "fnExactResultantOf", unfollowed := true, recurses := true, plainKeys := false, apart := false }
def FnExactResultantOfSaid : Prop := fnExactResultantOfRow.holds Try.pinned (OpenSpec.ofChange fnExactResultantOfSpec)

/-- ITS FALSE NEIGHBOUR: 'it returns false'. Refute it at one input. -/
def fnExactResultantOfWrong : ChangeSpec := { name := "fnExactResultantOf", fn := fun _ => fun
  | [d1, d2, d3] => { results := [.lit (.bool false)], args := [d1, d2, d3] }
  | _ => none }
def FnExactResultantOfWrongFalsely : Prop := fnExactResultantOfRow.holds Try.pinned (OpenSpec.ofChange fnExactResultantOfWrong)

/-- 'laws.FnExactDiscriminantOf': WHATEVER THE INPUT: true; the input reads as it did. -/
def fnExactDiscriminantOfSpec : ChangeSpec := { name := "fnExactDiscriminantOf", fn := fun _ => fun
  | [d1, d2] => { results := [.lit (.bool true)], args := [d1, d2] }
  | _ => none }
def fnExactDiscriminantOfRow : OpenClaim := { program := "ytnojmghmkoojfaa", sum := "ba19d78691258cba28f021a37f89af4543b2ef92e80609fb72027e32fe34959b", func := "loop.example/g01283/laws.FnExactDiscriminantOf", spec := "fnExactDiscriminantOf", unfollowed := true, recurses := true, plainKeys := false, apart := false }
def FnExactDiscriminantOfSaid : Prop := fnExactDiscriminantOfRow.holds Try.pinned (OpenSpec.ofChange fnExactDiscriminantOfSpec)

/-- ITS FALSE NEIGHBOUR: 'it returns false'. Refute it at one input. -/
def fnExactDiscriminantOfWrong : ChangeSpec := { name := "fnExactDiscriminantOf", fn := fun _ => fun
  | [d1, d2] => { results := [.lit (.bool false)], args := [d1, d2] }
  | _ => none }
def FnExactDiscriminantOfWrongFalsely : Prop := fnExactDiscriminantOfRow.holds Try.pinned (OpenSpec.ofChange fnExactDiscriminantOfWrong)

/-- 'laws.FnExactMultiplicityOf': WHATEVER THE INPUT: true; the input reads as it did. -/
def fnExactMultiplicityOfSpec : ChangeSpec := { name := "fnExactMultiplicityOf", fn := fun _ => fun
  | [d1, d2, d3] => { results := [.lit (.bool true)], args := [d1, d2, d3] }
  | _ => none }
def fnExactMultiplicityOfRow : OpenClaim := { program := "ytnojmghmkoojfaa", sum := "ba19d78691258cba28f021a37f89af4543b2ef92e80609fb72027e32fe34959b", func := "loop.example/g01283/laws.FnExactMultiplicityOf", spec := "fnExactMultiplicityOf", unfollowed := true, recurses := true, plainKeys := false, apart := false }
def FnExactMultiplicityOfSaid : Prop := fnExactMultiplicityOfRow.holds Try.pinned (OpenSpec.ofChange fnExactMultiplicityOfSpec)

/-- ITS FALSE NEIGHBOUR: 'it returns false'. Refute it at one input. -/
def fnExactMultiplicityOfWrong : ChangeSpec := { name := "fnExactMultiplicityOf", fn := fun _ => fun
  | [d1, d2, d3] => { results := [.lit (.bool false)], args := [d1, d2, d3] }
  | _ => none }
def FnExactMultiplicityOfWrongFalsely : Prop := fnExactMultiplicityOfRow.holds Try.pinned (OpenSpec.ofChange fnExactMultiplicityOfWrong)

/-- 'laws.FnExactMatrixOf': WHATEVER THE INPUT: true; the input reads as it did. -/
def fnExactMatrixOfSpec : ChangeSpec := { name := "fnExactMatrixOf", fn := fun _ => fun
  | [d] => { results := [.lit (.bool true)], args := [d] }
  | _ => none }
def fnExactMatrixOfRow : OpenClaim := { program := "ytnojmghmkoojfaa", sum := "ba19d78691258cba28f021a37f89af4543b2ef92e80609fb72027e32fe34959b", func := "loop.example/g01283/laws.FnExactMatrixOf", spec := "fnExactMatrixOf", plainKeys := false, apart := false }
def FnExactMatrixOfSaid : Prop := fnExactMatrixOfRow.holds Try.pinned (OpenSpec.ofChange fnExactMatrixOfSpec)

/-- ITS FALSE NEIGHBOUR: 'it returns false'. Refute it at one input. -/
def fnExactMatrixOfWrong : ChangeSpec := { name := "fnExactMatrixOf", fn := fun _ => fun
  | [d] => { results := [.lit (.bool false)], args := [d] }
  | _ => none }
def FnExactMatrixOfWrongFalsely : Prop := fnExactMatrixOfRow.holds Try.pinned (OpenSpec.ofChange fnExactMatrixOfWrong)

/-- 'laws.FnExactConvergentsOf': WHATEVER THE INPUT: true; the input reads as it did. -/
def fnExactConvergentsOfSpec : ChangeSpec := { name := "fnExactConvergentsOf", fn := fun _ => fun
  | [d1, d2] => { results := [.lit (.bool true)], args := [d1, d2] }
  | _ => none }
def fnExactConvergentsOfRow : OpenClaim := { program := "ytnojmghmkoojfaa", sum := "ba19d78691258cba28f021a37f89af4543b2ef92e80609fb72027e32fe34959b", func := "loop.example/g01283/laws.FnExactConvergentsOf", spec := "fnExactConvergentsOf", plainKeys := false, apart := false }
def FnExactConvergentsOfSaid : Prop := fnExactConvergentsOfRow.holds Try.pinned (OpenSpec.ofChange fnExactConvergentsOfSpec)

/-- ITS FALSE NEIGHBOUR: 'it returns false'. Refute it at one input. -/
def fnExactConvergentsOfWrong : ChangeSpec := { name := "fnExactConvergentsOf", fn := fun _ => fun
  | [d1, d2] => { results := [.lit (.bool false)], args := [d1, d2] }
  | _ => none }
def FnExactConvergentsOfWrongFalsely : Prop := fnExactConvergentsOfRow.holds Try.pinned (OpenSpec.ofChange fnExactConvergentsOfWrong)

/- THE SECOND FORM. 'bulk': how many values and letters a reading holds, each counted each time it is reached (what is shared counts as often as it is met; a slice's spare places count too). A statement '..UptoSaid' is the law's where the arguments, and the package variables that the reading takes, are together of bulk at most 1048576: NARROWER than '..Said'. Prove '..Said' where nothing that the law and all that it calls make is longer than what came in: it says more and counts as full. Else prove '..UptoSaid'. A law counts once. -/
mutual
def uptoBulk {H : Type} : DataW H → Nat
  | .lit (.string bytes) => bytes.length + 1
  | .lit _ => 1
  | .nil => 1
  | .ptr d => uptoBulk d + 1
  | .slice elems spare => uptoBulkAll elems + uptoBulkAll spare + 1
  | .agg parts => uptoBulkAll parts + 1
  | .iface _ d => uptoBulk d + 1
  | .map entries => uptoBulkEntries entries + 1
  | .held _ => 1
def uptoBulkAll {H : Type} : List (DataW H) → Nat
  | [] => 0
  | d :: r => uptoBulk d + uptoBulkAll r
def uptoBulkEntries {H : Type} : List (Lit × DataW H) → Nat
  | [] => 0
  | x :: r => uptoBulkEntry x + uptoBulkEntries r
def uptoBulkEntry {H : Type} : Lit × DataW H → Nat
  | (.string bytes, d) => bytes.length + uptoBulk d + 1
  | (_, d) => uptoBulk d + 1
 end
def uptoSmall : (H : Type) → List (DataW H) → Bool := fun _ ds => decide (uptoBulkAll ds ≤ 1048576)
def OpenSpec.upto (s : _root_.Go.ChangeSpec) : _root_.Go.OpenSpec := { _root_.Go.OpenSpec.ofChange s with cond := some uptoSmall }

/-- 'laws.FnExactPolynomialOfRoots', WHERE WHAT IT READS IS OF BULK AT MOST 1048576: true; the input reads as it did. -/
def fnExactPolynomialOfRootsUptoRow : OpenClaim := { program := "ytnojmghmkoojfaa", sum := "ba19d78691258cba28f021a37f89af4543b2ef92e80609fb72027e32fe34959b", func := "loop.example/g01283/laws.FnExactPolynomialOfRoots", spec := "fnExactPolynomialOfRoots", plainKeys := false, apart := false, narrowed := true }
def FnExactPolynomialOfRootsUptoSaid : Prop := fnExactPolynomialOfRootsUptoRow.holds Try.pinned (OpenSpec.upto fnExactPolynomialOfRootsSpec)

/-- 'laws.FnExactMoveRoots', WHERE WHAT IT READS IS OF BULK AT MOST 1048576: true; the input reads as it did. -/
def fnExactMoveRootsUptoRow : OpenClaim := { program := "ytnojmghmkoojfaa", sum := "ba19d78691258cba28f021a37f89af4543b2ef92e80609fb72027e32fe34959b", func := "loop.example/g01283/laws.FnExactMoveRoots", spec := "fnExactMoveRoots", unfollowed := true, recurses := true, plainKeys := false, apart := false, narrowed := true }
def FnExactMoveRootsUptoSaid : Prop := fnExactMoveRootsUptoRow.holds Try.pinned (OpenSpec.upto fnExactMoveRootsSpec)

/-- 'laws.FnExactScaleRoots', WHERE WHAT IT READS IS OF BULK AT MOST 1048576: true; the input reads as it did. -/
def fnExactScaleRootsUptoRow : OpenClaim := { program := "ytnojmghmkoojfaa", sum := "ba19d78691258cba28f021a37f89af4543b2ef92e80609fb72027e32fe34959b", func := "loop.example/g01283/laws.FnExactScaleRoots", spec := "fnExactScaleRoots", unfollowed := true, recurses := true, plainKeys := false, apart := false, narrowed := true }
def FnExactScaleRootsUptoSaid : Prop := fnExactScaleRootsUptoRow.holds Try.pinned (OpenSpec.upto fnExactScaleRootsSpec)

/-- 'laws.FnExactReversePolynomial', WHERE WHAT IT READS IS OF BULK AT MOST 1048576: true; the input reads as it did. -/
def fnExactReversePolynomialUptoRow : OpenClaim := { program := "ytnojmghmkoojfaa", sum := "ba19d78691258cba28f021a37f89af4543b2ef92e80609fb72027e32fe34959b", func := "loop.example/g01283/laws.FnExactReversePolynomial", spec := "fnExactReversePolynomial", plainKeys := false, apart := false, narrowed := true }
def FnExactReversePolynomialUptoSaid : Prop := fnExactReversePolynomialUptoRow.holds Try.pinned (OpenSpec.upto fnExactReversePolynomialSpec)

/-- 'laws.FnExactPowerSums', WHERE WHAT IT READS IS OF BULK AT MOST 1048576: true; the input reads as it did. -/
def fnExactPowerSumsUptoRow : OpenClaim := { program := "ytnojmghmkoojfaa", sum := "ba19d78691258cba28f021a37f89af4543b2ef92e80609fb72027e32fe34959b", func := "loop.example/g01283/laws.FnExactPowerSums", spec := "fnExactPowerSums", unfollowed := true, recurses := true, plainKeys := false, apart := false, narrowed := true }
def FnExactPowerSumsUptoSaid : Prop := fnExactPowerSumsUptoRow.holds Try.pinned (OpenSpec.upto fnExactPowerSumsSpec)

/-- 'laws.FnExactIsSimplePolynomial', WHERE WHAT IT READS IS OF BULK AT MOST 1048576: true; the input reads as it did. -/
def fnExactIsSimplePolynomialUptoRow : OpenClaim := { program := "ytnojmghmkoojfaa", sum := "ba19d78691258cba28f021a37f89af4543b2ef92e80609fb72027e32fe34959b", func := "loop.example/g01283/laws.FnExactIsSimplePolynomial", spec := "fnExactIsSimplePolynomial", unfollowed := true, recurses := true, plainKeys := false, apart := false, narrowed := true }
def FnExactIsSimplePolynomialUptoSaid : Prop := fnExactIsSimplePolynomialUptoRow.holds Try.pinned (OpenSpec.upto fnExactIsSimplePolynomialSpec)

/-- 'laws.FnExactSimplePart', WHERE WHAT IT READS IS OF BULK AT MOST 1048576: true; the input reads as it did. -/
def fnExactSimplePartUptoRow : OpenClaim := { program := "ytnojmghmkoojfaa", sum := "ba19d78691258cba28f021a37f89af4543b2ef92e80609fb72027e32fe34959b", func := "loop.example/g01283/laws.FnExactSimplePart", spec := "fnExactSimplePart", unfollowed := true, recurses := true, plainKeys := false, apart := false, narrowed := true }
def FnExactSimplePartUptoSaid : Prop := fnExactSimplePartUptoRow.holds Try.pinned (OpenSpec.upto fnExactSimplePartSpec)

/-- 'laws.FnExactResultantOf', WHERE WHAT IT READS IS OF BULK AT MOST 1048576: true; the input reads as it did. -/
def fnExactResultantOfUptoRow : OpenClaim := { program := "ytnojmghmkoojfaa", sum := "ba19d78691258cba28f021a37f89af4543b2ef92e80609fb72027e32fe34959b", func := "loop.example/g01283/laws.FnExactResultantOf", spec := "fnExactResultantOf", unfollowed := true, recurses := true, plainKeys := false, apart := false, narrowed := true }
def FnExactResultantOfUptoSaid : Prop := fnExactResultantOfUptoRow.holds Try.pinned (OpenSpec.upto fnExactResultantOfSpec)

/-- 'laws.FnExactDiscriminantOf', WHERE WHAT IT READS IS OF BULK AT MOST 1048576: true; the input reads as it did. -/
def fnExactDiscriminantOfUptoRow : OpenClaim := { program := "ytnojmghmkoojfaa", sum := "ba19d78691258cba28f021a37f89af4543b2ef92e80609fb72027e32fe34959b", func := "loop.example/g01283/laws.FnExactDiscriminantOf", spec := "fnExactDiscriminantOf", unfollowed := true, recurses := true, plainKeys := false, apart := false, narrowed := true }
def FnExactDiscriminantOfUptoSaid : Prop := fnExactDiscriminantOfUptoRow.holds Try.pinned (OpenSpec.upto fnExactDiscriminantOfSpec)

/-- 'laws.FnExactMultiplicityOf', WHERE WHAT IT READS IS OF BULK AT MOST 1048576: true; the input reads as it did. -/
def fnExactMultiplicityOfUptoRow : OpenClaim := { program := "ytnojmghmkoojfaa", sum := "ba19d78691258cba28f021a37f89af4543b2ef92e80609fb72027e32fe34959b", func := "loop.example/g01283/laws.FnExactMultiplicityOf", spec := "fnExactMultiplicityOf", unfollowed := true, recurses := true, plainKeys := false, apart := false, narrowed := true }
def FnExactMultiplicityOfUptoSaid : Prop := fnExactMultiplicityOfUptoRow.holds Try.pinned (OpenSpec.upto fnExactMultiplicityOfSpec)

/-- 'laws.FnExactMatrixOf', WHERE WHAT IT READS IS OF BULK AT MOST 1048576: true; the input reads as it did. -/
def fnExactMatrixOfUptoRow : OpenClaim := { program := "ytnojmghmkoojfaa", sum := "ba19d78691258cba28f021a37f89af4543b2ef92e80609fb72027e32fe34959b", func := "loop.example/g01283/laws.FnExactMatrixOf", spec := "fnExactMatrixOf", plainKeys := false, apart := false, narrowed := true }
def FnExactMatrixOfUptoSaid : Prop := fnExactMatrixOfUptoRow.holds Try.pinned (OpenSpec.upto fnExactMatrixOfSpec)

/-- 'laws.FnExactConvergentsOf', WHERE WHAT IT READS IS OF BULK AT MOST 1048576: true; the input reads as it did. -/
def fnExactConvergentsOfUptoRow : OpenClaim := { program := "ytnojmghmkoojfaa", sum := "ba19d78691258cba28f021a37f89af4543b2ef92e80609fb72027e32fe34959b", func := "loop.example/g01283/laws.FnExactConvergentsOf", spec := "fnExactConvergentsOf", plainKeys := false, apart := false, narrowed := true }
def FnExactConvergentsOfUptoSaid : Prop := fnExactConvergentsOfUptoRow.holds Try.pinned (OpenSpec.upto fnExactConvergentsOfSpec)

end Rows
end Go.Proofs.Ytnojmghmkoojfaa
