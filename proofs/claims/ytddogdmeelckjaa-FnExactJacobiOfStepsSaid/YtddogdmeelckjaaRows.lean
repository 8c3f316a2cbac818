/-
  No cell of these rows narrows 'for every input' (looked for: loops, veiled, ifaces, maps, wideKeys, modest, calm, conditions, laid).
  DERIVED. THE GIVEN ROWS OF THIS SEAT. 12 by the template 'for every input the law returns true; each argument reads behind the call as it read before'; 0 by the template 'total and deterministic' (their statements: YtddogdmeelckjaaTotals.lean).
  GIVEN WITH THE SEED: the statements are not yours to turn. If you find one false, say at which input.
  Laid BY PROGRAM, IN A SANDBOX (cutbox-rows.mjs): the forced cells as the released guide's own fill.sh prints them over the translation fb9ab6df08ba90da… (all of the seat's roots in one cut). By AI agents, Wed Nov 11 2026. No macro, syntax, notation, axiom, sorry.
-/
import Derived.Test.YtddogdmeelckjaaChecked
import GoSem.Claim
import GoSem.ClaimJoined
import GoSem.ClaimMapViews
import Derived.JoinedTies
import Derived.KernelRfl
namespace Go.Proofs.Ytddogdmeelckjaa
/- THE CELL 'sum', in the pinned program and in every row, IS THE sha256 OF THE DUMP (.gsa) THAT YtddogdmeelckjaaProg.lean LOADS. Nothing in Lean hashes anything: it is a label: what it is worth is what the hold of that sum in a sandbox is worth. -/
noncomputable def Try.pinned : Pinned := { name := "ytddogdmeelckjaa", sum := "fb9ab6df08ba90da099422ca2171edd97316ef33af657729f6a602201901dc04", checked := Try.checked }
namespace Rows
def none {H : Type} : Left H := { results := [], args := [] }

/-- 'laws.FnExactSeriesOf': WHATEVER THE INPUT: true; the input reads as it did. -/
def fnExactSeriesOfSpec : ChangeSpec := { name := "fnExactSeriesOf", fn := fun _ => fun
  | [d1, d2, d3, d4] => { results := [.lit (.bool true)], args := [d1, d2, d3, d4] }
  | _ => none }
def fnExactSeriesOfRow : OpenClaim := { program := "ytddogdmeelckjaa", sum := "fb9ab6df08ba90da099422ca2171edd97316ef33af657729f6a602201901dc04", func := "loop.example/g01283/laws.FnExactSeriesOf", spec := "fnExactSeriesOf", unfollowed := true, recurses := true, apart := false }
def FnExactSeriesOfSaid : Prop := fnExactSeriesOfRow.holds Try.pinned (OpenSpec.ofChange fnExactSeriesOfSpec)

/-- ITS FALSE NEIGHBOUR: 'it returns false'. Refute it at one input. -/
def fnExactSeriesOfWrong : ChangeSpec := { name := "fnExactSeriesOf", fn := fun _ => fun
  | [d1, d2, d3, d4] => { results := [.lit (.bool false)], args := [d1, d2, d3, d4] }
  | _ => none }
def FnExactSeriesOfWrongFalsely : Prop := fnExactSeriesOfRow.holds Try.pinned (OpenSpec.ofChange fnExactSeriesOfWrong)

/-- 'laws.FnExactMultiplySeries': WHATEVER THE INPUT: true; the input reads as it did. -/
def fnExactMultiplySeriesSpec : ChangeSpec := { name := "fnExactMultiplySeries", fn := fun _ => fun
  | [d1, d2, d3] => { results := [.lit (.bool true)], args := [d1, d2, d3] }
  | _ => none }
def fnExactMultiplySeriesRow : OpenClaim := { program := "ytddogdmeelckjaa", sum := "fb9ab6df08ba90da099422ca2171edd97316ef33af657729f6a602201901dc04", func := "loop.example/g01283/laws.FnExactMultiplySeries", spec := "fnExactMultiplySeries", apart := false }
def FnExactMultiplySeriesSaid : Prop := fnExactMultiplySeriesRow.holds Try.pinned (OpenSpec.ofChange fnExactMultiplySeriesSpec)

/-- ITS FALSE NEIGHBOUR: 'it returns false'. Refute it at one input. -/
def fnExactMultiplySeriesWrong : ChangeSpec := { name := "fnExactMultiplySeries", fn := fun _ => fun
  | [d1, d2, d3] => { results := [.lit (.bool false)], args := [d1, d2, d3] }
  | _ => none }
def FnExactMultiplySeriesWrongFalsely : Prop := fnExactMultiplySeriesRow.holds Try.pinned (OpenSpec.ofChange fnExactMultiplySeriesWrong)

/-- 'laws.FnExactInverseSeries': WHATEVER THE INPUT: true; the input reads as it did. -/
def fnExactInverseSeriesSpec : ChangeSpec := { name := "fnExactInverseSeries", fn := fun _ => fun
  | [d1, d2] => { results := [.lit (.bool true)], args := [d1, d2] }
  | _ => none }
def fnExactInverseSeriesRow : OpenClaim := { program := "ytddogdmeelckjaa", sum := "fb9ab6df08ba90da099422ca2171edd97316ef33af657729f6a602201901dc04", func := "loop.example/g01283/laws.FnExactInverseSeries", spec := "fnExactInverseSeries", unfollowed := true, recurses := true, apart := false }
def FnExactInverseSeriesSaid : Prop := fnExactInverseSeriesRow.holds Try.pinned (OpenSpec.ofChange fnExactInverseSeriesSpec)

/-- ITS FALSE NEIGHBOUR: 'it returns false'. Refute it at one input. -/
def fnExactInverseSeriesWrong : ChangeSpec := { name := "fnExactInverseSeries", fn := fun _ => fun
  | [d1, d2] => { results := [.lit (.bool false)], args := [d1, d2] }
  | _ => none }
def FnExactInverseSeriesWrongFalsely : Prop := fnExactInverseSeriesRow.holds Try.pinned (OpenSpec.ofChange fnExactInverseSeriesWrong)

/-- 'laws.FnExactMomentsOfSteps': WHATEVER THE INPUT: true; the input reads as it did. -/
def fnExactMomentsOfStepsSpec : ChangeSpec := { name := "fnExactMomentsOfSteps", fn := fun _ => fun
  | [d1, d2, d3] => { results := [.lit (.bool true)], args := [d1, d2, d3] }
  | _ => none }
def fnExactMomentsOfStepsRow : OpenClaim := { program := "ytddogdmeelckjaa", sum := "fb9ab6df08ba90da099422ca2171edd97316ef33af657729f6a602201901dc04", func := "loop.example/g01283/laws.FnExactMomentsOfSteps", spec := "fnExactMomentsOfSteps", unfollowed := true, recurses := true, apart := false }
def FnExactMomentsOfStepsSaid : Prop := fnExactMomentsOfStepsRow.holds Try.pinned (OpenSpec.ofChange fnExactMomentsOfStepsSpec)

/-- ITS FALSE NEIGHBOUR: 'it returns false'. Refute it at one input. -/
def fnExactMomentsOfStepsWrong : ChangeSpec := { name := "fnExactMomentsOfSteps", fn := fun _ => fun
  | [d1, d2, d3] => { results := [.lit (.bool false)], args := [d1, d2, d3] }
  | _ => none }
def FnExactMomentsOfStepsWrongFalsely : Prop := fnExactMomentsOfStepsRow.holds Try.pinned (OpenSpec.ofChange fnExactMomentsOfStepsWrong)

/-- 'laws.FnExactJacobiOfSteps': WHATEVER THE INPUT: true; the input reads as it did. -/
def fnExactJacobiOfStepsSpec : ChangeSpec := { name := "fnExactJacobiOfSteps", fn := fun _ => fun
  | [d1, d2] => { results := [.lit (.bool true)], args := [d1, d2] }
  | _ => none }
def fnExactJacobiOfStepsRow : OpenClaim := { program := "ytddogdmeelckjaa", sum := "fb9ab6df08ba90da099422ca2171edd97316ef33af657729f6a602201901dc04", func := "loop.example/g01283/laws.FnExactJacobiOfSteps", spec := "fnExactJacobiOfSteps", apart := false }
def FnExactJacobiOfStepsSaid : Prop := fnExactJacobiOfStepsRow.holds Try.pinned (OpenSpec.ofChange fnExactJacobiOfStepsSpec)

/-- ITS FALSE NEIGHBOUR: 'it returns false'. Refute it at one input. -/
def fnExactJacobiOfStepsWrong : ChangeSpec := { name := "fnExactJacobiOfSteps", fn := fun _ => fun
  | [d1, d2] => { results := [.lit (.bool false)], args := [d1, d2] }
  | _ => none }
def FnExactJacobiOfStepsWrongFalsely : Prop := fnExactJacobiOfStepsRow.holds Try.pinned (OpenSpec.ofChange fnExactJacobiOfStepsWrong)

/-- 'laws.FnExactSeriesOfJacobi': WHATEVER THE INPUT: true; the input reads as it did. -/
def fnExactSeriesOfJacobiSpec : ChangeSpec := { name := "fnExactSeriesOfJacobi", fn := fun _ => fun
  | [d1, d2] => { results := [.lit (.bool true)], args := [d1, d2] }
  | _ => none }
def fnExactSeriesOfJacobiRow : OpenClaim := { program := "ytddogdmeelckjaa", sum := "fb9ab6df08ba90da099422ca2171edd97316ef33af657729f6a602201901dc04", func := "loop.example/g01283/laws.FnExactSeriesOfJacobi", spec := "fnExactSeriesOfJacobi", unfollowed := true, recurses := true, apart := false }
def FnExactSeriesOfJacobiSaid : Prop := fnExactSeriesOfJacobiRow.holds Try.pinned (OpenSpec.ofChange fnExactSeriesOfJacobiSpec)

/-- ITS FALSE NEIGHBOUR: 'it returns false'. Refute it at one input. -/
def fnExactSeriesOfJacobiWrong : ChangeSpec := { name := "fnExactSeriesOfJacobi", fn := fun _ => fun
  | [d1, d2] => { results := [.lit (.bool false)], args := [d1, d2] }
  | _ => none }
def FnExactSeriesOfJacobiWrongFalsely : Prop := fnExactSeriesOfJacobiRow.holds Try.pinned (OpenSpec.ofChange fnExactSeriesOfJacobiWrong)

/-- 'laws.FnExactConvergentsOf': WHATEVER THE INPUT: true; the input reads as it did. -/
def fnExactConvergentsOfSpec : ChangeSpec := { name := "fnExactConvergentsOf", fn := fun _ => fun
  | [d1, d2] => { results := [.lit (.bool true)], args := [d1, d2] }
  | _ => none }
def fnExactConvergentsOfRow : OpenClaim := { program := "ytddogdmeelckjaa", sum := "fb9ab6df08ba90da099422ca2171edd97316ef33af657729f6a602201901dc04", func := "loop.example/g01283/laws.FnExactConvergentsOf", spec := "fnExactConvergentsOf", apart := false }
def FnExactConvergentsOfSaid : Prop := fnExactConvergentsOfRow.holds Try.pinned (OpenSpec.ofChange fnExactConvergentsOfSpec)

/-- ITS FALSE NEIGHBOUR: 'it returns false'. Refute it at one input. -/
def fnExactConvergentsOfWrong : ChangeSpec := { name := "fnExactConvergentsOf", fn := fun _ => fun
  | [d1, d2] => { results := [.lit (.bool false)], args := [d1, d2] }
  | _ => none }
def FnExactConvergentsOfWrongFalsely : Prop := fnExactConvergentsOfRow.holds Try.pinned (OpenSpec.ofChange fnExactConvergentsOfWrong)

/-- 'laws.FnExactMomentsOfJacobi': WHATEVER THE INPUT: true; the input reads as it did. -/
def fnExactMomentsOfJacobiSpec : ChangeSpec := { name := "fnExactMomentsOfJacobi", fn := fun _ => fun
  | [d1, d2] => { results := [.lit (.bool true)], args := [d1, d2] }
  | _ => none }
def fnExactMomentsOfJacobiRow : OpenClaim := { program := "ytddogdmeelckjaa", sum := "fb9ab6df08ba90da099422ca2171edd97316ef33af657729f6a602201901dc04", func := "loop.example/g01283/laws.FnExactMomentsOfJacobi", spec := "fnExactMomentsOfJacobi", unfollowed := true, recurses := true, apart := false }
def FnExactMomentsOfJacobiSaid : Prop := fnExactMomentsOfJacobiRow.holds Try.pinned (OpenSpec.ofChange fnExactMomentsOfJacobiSpec)

/-- ITS FALSE NEIGHBOUR: 'it returns false'. Refute it at one input. -/
def fnExactMomentsOfJacobiWrong : ChangeSpec := { name := "fnExactMomentsOfJacobi", fn := fun _ => fun
  | [d1, d2] => { results := [.lit (.bool false)], args := [d1, d2] }
  | _ => none }
def FnExactMomentsOfJacobiWrongFalsely : Prop := fnExactMomentsOfJacobiRow.holds Try.pinned (OpenSpec.ofChange fnExactMomentsOfJacobiWrong)

/-- 'laws.FnExactNamedMoments': WHATEVER THE INPUT: true; the input reads as it did. -/
def fnExactNamedMomentsSpec : ChangeSpec := { name := "fnExactNamedMoments", fn := fun _ => fun
  | [d1, d2, d3] => { results := [.lit (.bool true)], args := [d1, d2, d3] }
  | _ => none }
def fnExactNamedMomentsRow : OpenClaim := { program := "ytddogdmeelckjaa", sum := "fb9ab6df08ba90da099422ca2171edd97316ef33af657729f6a602201901dc04", func := "loop.example/g01283/laws.FnExactNamedMoments", spec := "fnExactNamedMoments", unfollowed := true, recurses := true, apart := false }
def FnExactNamedMomentsSaid : Prop := fnExactNamedMomentsRow.holds Try.pinned (OpenSpec.ofChange fnExactNamedMomentsSpec)

/-- ITS FALSE NEIGHBOUR: 'it returns false'. Refute it at one input. -/
def fnExactNamedMomentsWrong : ChangeSpec := { name := "fnExactNamedMoments", fn := fun _ => fun
  | [d1, d2, d3] => { results := [.lit (.bool false)], args := [d1, d2, d3] }
  | _ => none }
def FnExactNamedMomentsWrongFalsely : Prop := fnExactNamedMomentsRow.holds Try.pinned (OpenSpec.ofChange fnExactNamedMomentsWrong)

/-- 'laws.FnExactAffineMoments': WHATEVER THE INPUT: true; the input reads as it did. -/
def fnExactAffineMomentsSpec : ChangeSpec := { name := "fnExactAffineMoments", fn := fun _ => fun
  | [d1, d2, d3] => { results := [.lit (.bool true)], args := [d1, d2, d3] }
  | _ => none }
def fnExactAffineMomentsRow : OpenClaim := { program := "ytddogdmeelckjaa", sum := "fb9ab6df08ba90da099422ca2171edd97316ef33af657729f6a602201901dc04", func := "loop.example/g01283/laws.FnExactAffineMoments", spec := "fnExactAffineMoments", unfollowed := true, recurses := true, apart := false }
def FnExactAffineMomentsSaid : Prop := fnExactAffineMomentsRow.holds Try.pinned (OpenSpec.ofChange fnExactAffineMomentsSpec)

/-- ITS FALSE NEIGHBOUR: 'it returns false'. Refute it at one input. -/
def fnExactAffineMomentsWrong : ChangeSpec := { name := "fnExactAffineMoments", fn := fun _ => fun
  | [d1, d2, d3] => { results := [.lit (.bool false)], args := [d1, d2, d3] }
  | _ => none }
def FnExactAffineMomentsWrongFalsely : Prop := fnExactAffineMomentsRow.holds Try.pinned (OpenSpec.ofChange fnExactAffineMomentsWrong)

/-- 'laws.FnExactCharacteristicPoly': WHATEVER THE INPUT: true; the input reads as it did. -/
def fnExactCharacteristicPolySpec : ChangeSpec := { name := "fnExactCharacteristicPoly", fn := fun _ => fun
  | [d1, d2] => { results := [.lit (.bool true)], args := [d1, d2] }
  | _ => none }
def fnExactCharacteristicPolyRow : OpenClaim := { program := "ytddogdmeelckjaa", sum := "fb9ab6df08ba90da099422ca2171edd97316ef33af657729f6a602201901dc04", func := "loop.example/g01283/laws.FnExactCharacteristicPoly", spec := "fnExactCharacteristicPoly", unfollowed := true, recurses := true, apart := false }
def FnExactCharacteristicPolySaid : Prop := fnExactCharacteristicPolyRow.holds Try.pinned (OpenSpec.ofChange fnExactCharacteristicPolySpec)

/-- ITS FALSE NEIGHBOUR: 'it returns false'. Refute it at one input. -/
def fnExactCharacteristicPolyWrong : ChangeSpec := { name := "fnExactCharacteristicPoly", fn := fun _ => fun
  | [d1, d2] => { results := [.lit (.bool false)], args := [d1, d2] }
  | _ => none }
def FnExactCharacteristicPolyWrongFalsely : Prop := fnExactCharacteristicPolyRow.holds Try.pinned (OpenSpec.ofChange fnExactCharacteristicPolyWrong)

/-- 'laws.FnExactMatrixOf': WHATEVER THE INPUT: true; the input reads as it did. -/
def fnExactMatrixOfSpec : ChangeSpec := { name := "fnExactMatrixOf", fn := fun _ => fun
  | [d] => { results := [.lit (.bool true)], args := [d] }
  | _ => none }
def fnExactMatrixOfRow : OpenClaim := { program := "ytddogdmeelckjaa", sum := "fb9ab6df08ba90da099422ca2171edd97316ef33af657729f6a602201901dc04", func := "loop.example/g01283/laws.FnExactMatrixOf", spec := "fnExactMatrixOf", apart := false }
def FnExactMatrixOfSaid : Prop := fnExactMatrixOfRow.holds Try.pinned (OpenSpec.ofChange fnExactMatrixOfSpec)

/-- ITS FALSE NEIGHBOUR: 'it returns false'. Refute it at one input. -/
def fnExactMatrixOfWrong : ChangeSpec := { name := "fnExactMatrixOf", fn := fun _ => fun
  | [d] => { results := [.lit (.bool false)], args := [d] }
  | _ => none }
def FnExactMatrixOfWrongFalsely : Prop := fnExactMatrixOfRow.holds Try.pinned (OpenSpec.ofChange fnExactMatrixOfWrong)

/- THE SECOND FORM. 'bulk': how many values and letters a reading holds, each counted each time it is reached (what is shared counts as often as it is met; a slice's spare places count too). A statement '..UptoSaid' is the law's where the arguments, and the package variables that the reading takes, are together of bulk at most 1048576: NARROWER than '..Said'. Prove '..Said' where nothing that the law and all that it calls make is longer than what came in: it says more and counts as full. Else prove '..UptoSaid'. A law counts once. -/
mutual
def uptoBulk {H : Type} : DataW H → Nat
  | .lit (.string bytes) => bytes.length + 1
  | .lit _ => 1
  | .nil => 1
  | .ptr d => uptoBulk d + 1
  | .slice elems spare => uptoBulkAll elems + uptoBulkAll spare + 1
  | .agg parts => uptoBulkAll parts + 1
  | .iface _ d => uptoBulk d + 1
  | .map entries => uptoBulkEntries entries + 1
  | .held _ => 1
def uptoBulkAll {H : Type} : List (DataW H) → Nat
  | [] => 0
  | d :: r => uptoBulk d + uptoBulkAll r
def uptoBulkEntries {H : Type} : List (Lit × DataW H) → Nat
  | [] => 0
  | x :: r => uptoBulkEntry x + uptoBulkEntries r
def uptoBulkEntry {H : Type} : Lit × DataW H → Nat
  | (.string bytes, d) => bytes.length + uptoBulk d + 1
  | (_, d) => uptoBulk d + 1
 end
def uptoSmall : (H : Type) → List (DataW H) → Bool := fun _ ds => decide (uptoBulkAll ds ≤ 1048576)
def OpenSpec.upto (s : _root_.Go.ChangeSpec) : _root_.Go.OpenSpec := { _root_.Go.OpenSpec.ofChange s with cond := some uptoSmall }

/-- 'laws.FnExactSeriesOf', WHERE WHAT IT READS IS OF BULK AT MOST 1048576: true; the input reads as it did. -/
def fnExactSeriesOfUptoRow : OpenClaim := { program := "ytddogdmeelckjaa", sum := "fb9ab6df08ba90da099422ca2171edd97316ef33af657729f6a602201901dc04", func := "loop.example/g01283/laws.FnExactSeriesOf", spec := "fnExactSeriesOf", unfollowed := true, recurses := true, apart := false, narrowed := true }
def FnExactSeriesOfUptoSaid : Prop := fnExactSeriesOfUptoRow.holds Try.pinned (OpenSpec.upto fnExactSeriesOfSpec)

/-- 'laws.FnExactMultiplySeries', WHERE WHAT IT READS IS OF BULK AT MOST 1048576: true; the input reads as it did. -/
def fnExactMultiplySeriesUptoRow : OpenClaim := { program := "ytddogdmeelckjaa", sum := "fb9ab6df08ba90da099422ca2171edd97316ef33af657729f6a602201901dc04", func := "loop.example/g01283/laws.FnExactMultiplySeries", spec := "fnExactMultiplySeries", apart := false, narrowed := true }
def FnExactMultiplySeriesUptoSaid : Prop := fnExactMultiplySeriesUptoRow.holds Try.pinned (OpenSpec.upto fnExactMultiplySeriesSpec)

/-- 'laws.FnExactInverseSeries', WHERE WHAT IT READS IS OF BULK AT MOST 1048576: true; the input reads as it did. -/
def fnExactInverseSeriesUptoRow : OpenClaim := { program := "ytddogdmeelckjaa", sum := "fb9ab6df08ba90da099422ca2171edd97316ef33af657729f6a602201901dc04", func := "loop.example/g01283/laws.FnExactInverseSeries", spec := "fnExactInverseSeries", unfollowed := true, recurses := true, apart := false, narrowed := true }
def FnExactInverseSeriesUptoSaid : Prop := fnExactInverseSeriesUptoRow.holds Try.pinned (OpenSpec.upto fnExactInverseSeriesSpec)

/-- 'laws.FnExactMomentsOfSteps', WHERE WHAT IT READS IS OF BULK AT MOST 1048576: true; the input reads as it did. -/
def fnExactMomentsOfStepsUptoRow : OpenClaim := { program := "ytddogdmeelckjaa", sum := "fb9ab6df08ba90da099422ca2171edd97316ef33af657729f6a602201901dc04", func := "loop.example/g01283/laws.FnExactMomentsOfSteps", spec := "fnExactMomentsOfSteps", unfollowed := true, recurses := true, apart := false, narrowed := true }
def FnExactMomentsOfStepsUptoSaid : Prop := fnExactMomentsOfStepsUptoRow.holds Try.pinned (OpenSpec.upto fnExactMomentsOfStepsSpec)

/-- 'laws.FnExactJacobiOfSteps', WHERE WHAT IT READS IS OF BULK AT MOST 1048576: true; the input reads as it did. -/
def fnExactJacobiOfStepsUptoRow : OpenClaim := { program := "ytddogdmeelckjaa", sum := "fb9ab6df08ba90da099422ca2171edd97316ef33af657729f6a602201901dc04", func := "loop.example/g01283/laws.FnExactJacobiOfSteps", spec := "fnExactJacobiOfSteps", apart := false, narrowed := true }
def FnExactJacobiOfStepsUptoSaid : Prop := fnExactJacobiOfStepsUptoRow.holds Try.pinned (OpenSpec.upto fnExactJacobiOfStepsSpec)

/-- 'laws.FnExactSeriesOfJacobi', WHERE WHAT IT READS IS OF BULK AT MOST 1048576: true; the input reads as it did. -/
def fnExactSeriesOfJacobiUptoRow : OpenClaim := { program := "ytddogdmeelckjaa", sum := "fb9ab6df08ba90da099422ca2171edd97316ef33af657729f6a602201901dc04", func := "loop.example/g01283/laws.FnExactSeriesOfJacobi", spec := "fnExactSeriesOfJacobi", unfollowed := true, recurses := true, apart := false, narrowed := true }
def FnExactSeriesOfJacobiUptoSaid : Prop := fnExactSeriesOfJacobiUptoRow.holds Try.pinned (OpenSpec.upto fnExactSeriesOfJacobiSpec)

/-- 'laws.FnExactConvergentsOf', WHERE WHAT IT READS IS OF BULK AT MOST 1048576: true; the input reads as it did. -/
def fnExactConvergentsOfUptoRow : OpenClaim := { program := "ytddogdmeelckjaa", sum := "fb9ab6df08ba90da099422ca2171edd97316ef33af657729f6a602201901dc04", func := "loop.example/g01283/laws.FnExactConvergentsOf", spec := "fnExactConvergentsOf", apart := false, narrowed := true }
def FnExactConvergentsOfUptoSaid : Prop := fnExactConvergentsOfUptoRow.holds Try.pinned (OpenSpec.upto fnExactConvergentsOfSpec)

/-- 'laws.FnExactMomentsOfJacobi', WHERE WHAT IT READS IS OF BULK AT MOST 1048576: true; the input reads as it did. -/
def fnExactMomentsOfJacobiUptoRow : OpenClaim := { program := "ytddogdmeelckjaa", sum := "fb9ab6df08ba90da099422ca2171edd97316ef33af657729f6a602201901dc04", func := "loop.example/g01283/laws.FnExactMomentsOfJacobi", spec := "fnExactMomentsOfJacobi", unfollowed := true, recurses := true, apart := false, narrowed := true }
def FnExactMomentsOfJacobiUptoSaid : Prop := fnExactMomentsOfJacobiUptoRow.holds Try.pinned (OpenSpec.upto fnExactMomentsOfJacobiSpec)

/-- 'laws.FnExactNamedMoments', WHERE WHAT IT READS IS OF BULK AT MOST 1048576: true; the input reads as it did. -/
def fnExactNamedMomentsUptoRow : OpenClaim := { program := "ytddogdmeelckjaa", sum := "fb9ab6df08ba90da099422ca2171edd97316ef33af657729f6a602201901dc04", func := "loop.example/g01283/laws.FnExactNamedMoments", spec := "fnExactNamedMoments", unfollowed := true, recurses := true, apart := false, narrowed := true }
def FnExactNamedMomentsUptoSaid : Prop := fnExactNamedMomentsUptoRow.holds Try.pinned (OpenSpec.upto fnExactNamedMomentsSpec)

/-- 'laws.FnExactAffineMoments', WHERE WHAT IT READS IS OF BULK AT MOST 1048576: true; the input reads as it did. -/
def fnExactAffineMomentsUptoRow : OpenClaim := { program := "ytddogdmeelckjaa", sum := "fb9ab6df08ba90da099422ca2171edd97316ef33af657729f6a602201901dc04", func := "loop.example/g01283/laws.FnExactAffineMoments", spec := "fnExactAffineMoments", unfollowed := true, recurses := true, apart := false, narrowed := true }
def FnExactAffineMomentsUptoSaid : Prop := fnExactAffineMomentsUptoRow.holds Try.pinned (OpenSpec.upto fnExactAffineMomentsSpec)

/-- 'laws.FnExactCharacteristicPoly', WHERE WHAT IT READS IS OF BULK AT MOST 1048576: true; the input reads as it did. -/
def fnExactCharacteristicPolyUptoRow : OpenClaim := { program := "ytddogdmeelckjaa", sum := "fb9ab6df08ba90da099422ca2171edd97316ef33af657729f6a602201901dc04", func := "loop.example/g01283/laws.FnExactCharacteristicPoly", spec := "fnExactCharacteristicPoly", unfollowed := true, recurses := true, apart := false, narrowed := true }
def FnExactCharacteristicPolyUptoSaid : Prop := fnExactCharacteristicPolyUptoRow.holds Try.pinned (OpenSpec.upto fnExactCharacteristicPolySpec)

/-- 'laws.FnExactMatrixOf', WHERE WHAT IT READS IS OF BULK AT MOST 1048576: true; the input reads as it did. -/
def fnExactMatrixOfUptoRow : OpenClaim := { program := "ytddogdmeelckjaa", sum := "fb9ab6df08ba90da099422ca2171edd97316ef33af657729f6a602201901dc04", func := "loop.example/g01283/laws.FnExactMatrixOf", spec := "fnExactMatrixOf", apart := false, narrowed := true }
def FnExactMatrixOfUptoSaid : Prop := fnExactMatrixOfUptoRow.holds Try.pinned (OpenSpec.upto fnExactMatrixOfSpec)

end Rows
end Go.Proofs.Ytddogdmeelckjaa
